/-
  The texts RRefUn, SHear, as one.
-/
import Derived.Deep.CutRange
import Derived.Deep.RegionLaw
import Derived.Test.YtkdhbjmpjbdobaaGreatDoorM27
/- RRefUn -/
namespace Go.Proofs.YtkdhbjmpjbdobaaGreatDoor.Ns
open Go.ChangeShapes Go.WideShapes Go.ChangeAt Go.RowKit Go.Deep
set_option maxRecDepth 100000
open Ak

theorem below_next {W V w : World} (hb : Below V.heap.size V w) (h : Below W.heap.size W V) : Below W.heap.size W w := h.trans (hb.mono h.size)
theorem frozen_of {w : World} {b : Nat} {r : Rep} {v : Value} (h : w.heap[b]? = some (BR r v)) (j : Nat) : w.frozen? ⟨b, j, none⟩ = false := by simp [World.frozen?, h]
theorem Re.short_wrong {l : List (Int × ByteArray)} {y : ByteArray} (h : ((5 : Int), y) ∈ l) (hy : y.size < 13) : ¬ Re.rightP (Re.replyOf l) := by
  intro hr
  have hm : Re.entOf y ∈ (Re.replyOf l).ents := by
    unfold Re.replyOf
    simp only
    refine List.mem_map.2 ⟨y, ?_, rfl⟩
    unfold Pl.allOf
    exact List.mem_map.2 ⟨(5, y), List.mem_filter.2 ⟨h, by simp⟩, rfl⟩
  have h1 := (Re.entsP_mem hr.2.2.2.2.1.2 (Int.le_refl 0) _ hm).1.1
  unfold Re.entOf at h1
  rw [if_pos hy] at h1
  simp at h1
theorem meet_new {W x : World} (h : Below W.heap.size W x) (r : Rep) : ∃ b8 : Nat, Value.pointer (some ⟨x.heap.size, 0, none⟩) = .pointer (some ⟨b8, 0, none⟩) ∧ Hid ((x.alloc (BR r (.slice none 0 0))).heap[b8]? = some (BR r (.slice none 0 0))) ∧ Hid (Below W.heap.size W (x.alloc (BR r (.slice none 0 0)))) ∧ W.heap.size ≤ b8 :=
  ⟨_, rfl, heap_alloc_new x _, h.alloc h.size _, h.size⟩
theorem meet_old {W x : World} {b : Nat} (h : Below W.heap.size W x) (hz : x.heap[b]? = some (BR Re.zero (.slice none 0 0))) (hb : W.heap.size ≤ b) (r : Rep) : ∃ b8 : Nat, Value.pointer (some ⟨b, 0, none⟩) = .pointer (some ⟨b8, 0, none⟩) ∧ Hid ((putR x b r (.slice none 0 0)).heap[b8]? = some (BR r (.slice none 0 0))) ∧ Hid (Below W.heap.size W (putR x b r (.slice none 0 0))) ∧ W.heap.size ≤ b8 :=
  ⟨_, rfl, putR_heap hz r _, putR_below h hb r _, hb⟩
abbrev BF (t : Int) (y : ByteArray) : Obj := .cells #[.int .i64 t, .string y] 134
theorem bf_of {w : World} {b : Nat} {t : Int} {y : ByteArray} (h : w.heap[b]? = some (BF t y)) : w.cell? ⟨b, 0, none⟩ = some (.int .i64 t) ∧ w.cell? ⟨b, 1, none⟩ = some (.string y) := by
  refine ⟨?_, ?_⟩ <;> simp [World.cell?, h]
set_option maxRecDepth 100000 in
set_option maxHeartbeats 16000000 in
theorem repRefUnpack_at (s : ByteArray) (w : World) (hs : s.size ≤ 1048576) :
    Calls Tryz.prog 38 #[.string s] w fun e w' => ∃ v, e = .returned (.tuple #[VR (Re.unpR s.data.toList) v, .int .i64 (Re.unpE s.data.toList)]) ∧ At EE (fun b => w.heap.size ≤ b) w' v (Re.unpR s.data.toList).ents ∧ Below w.heap.size w w' := by
  have HS : Hid (s.size ≤ 1048576) := hs
  obtain ⟨l, hl⟩ : ∃ l, Pl.unpOut s.data.toList = l := ⟨_, rfl⟩
  have HL : Hid (Pl.unpOut s.data.toList = l) := hl
  have HSM : Hid (∀ x ∈ l, x.2.size ≤ 65535) := by rw [← hl]; exact parse_small _ _ _
  have HLN : Hid (l.length ≤ 400000) := by
    have h1 := parse_len s.data.toList.length 1 s.data.toList
    have h2 : s.data.toList.length = s.size := by simp
    rw [← hl]
    show (Pl.unpOut s.data.toList).length ≤ _
    unfold Pl.unpOut
    omega
  obtain ⟨C, hC⟩ : ∃ C, Re.unpR s.data.toList = C := ⟨_, rfl⟩
  obtain ⟨E, hE⟩ : ∃ E, Re.unpE s.data.toList = E := ⟨_, rfl⟩
  have HCE : Hid (Re.unpR s.data.toList = C ∧ Re.unpE s.data.toList = E) := ⟨hC, hE⟩
  rw [hC, hE]
  clear hC hE hl hs
  by_cases h0 : Pl.unpErr s.data.toList = 0
  · have H0 : Hid (Pl.unpErr s.data.toList = 0) := h0
    clear h0
    obtain ⟨v1, hv1⟩ : ∃ v, lastOf l 1 = v := ⟨_, rfl⟩
    obtain ⟨v2, hv2⟩ : ∃ v, lastOf l 2 = v := ⟨_, rfl⟩
    obtain ⟨v3, hv3⟩ : ∃ v, lastOf l 3 = v := ⟨_, rfl⟩
    obtain ⟨v4, hv4⟩ : ∃ v, lastOf l 4 = v := ⟨_, rfl⟩
    obtain ⟨v6, hv6⟩ : ∃ v, lastOf l 6 = v := ⟨_, rfl⟩
    have HV : Hid (lastOf l 1 = v1 ∧ lastOf l 2 = v2 ∧ lastOf l 3 = v3 ∧ lastOf l 4 = v4 ∧ lastOf l 6 = v6) := ⟨hv1, hv2, hv3, hv4, hv6⟩
    have HZ : Hid (v1.size ≤ maxLen ∧ v6.size ≤ maxLen) := by
      have h1 := lastOf_small HSM.out 1
      have h6 := lastOf_small HSM.out 6
      rw [hv1] at h1
      rw [hv6] at h6
      exact ⟨by unfold maxLen; omega, by unfold maxLen; omega⟩
    have HU : Hid (At.unpOut v3 = VA (Re.ua v3).1 (Re.ua v3).2.1 (Re.ua v3).2.2.1 (Re.ua v3).2.2.2) := Re.ua_out v3
    obtain ⟨uk, huk⟩ : ∃ k, (Re.ua v3).1 = k := ⟨_, rfl⟩
    obtain ⟨ul, hul⟩ : ∃ k, (Re.ua v3).2.1 = k := ⟨_, rfl⟩
    obtain ⟨us, hus⟩ : ∃ k, (Re.ua v3).2.2.1 = k := ⟨_, rfl⟩
    obtain ⟨ut, hut⟩ : ∃ k, (Re.ua v3).2.2.2 = k := ⟨_, rfl⟩
    rw [huk, hul, hus, hut] at HU
    obtain ⟨n1, hn1⟩ : ∃ k, Pl.numVal v1 = k := ⟨_, rfl⟩
    obtain ⟨n6, hn6⟩ : ∃ k, Pl.numVal v6 = k := ⟨_, rfl⟩
    obtain ⟨g1, hg1⟩ : ∃ k, hno v2 = k := ⟨_, rfl⟩
    obtain ⟨g2, hg2⟩ : ∃ k, hgen v2 = k := ⟨_, rfl⟩
    have HNV : Hid ((Pl.numVal v1 = n1 ∧ Pl.numVal v6 = n6) ∧ hno v2 = g1 ∧ hgen v2 = g2) := ⟨⟨hn1, hn6⟩, hg1, hg2⟩
    have HRE : Hid (∀ A : List (Int × ByteArray), A = l → (⟨n1, g1, g2, uk, ul, us, ut, v4, (Pl.allOf A 5).map Re.entOf, n6⟩ : Rep) = Re.replyOf l) := by
      intro A hA
      subst hA
      unfold Re.replyOf
      rw [hv1, hv2, hv3, hv4, hv6, huk, hul, hus, hut, hn1, hn6, hg1, hg2]
    clear hv1 hv2 hv3 hv4 hv6 huk hul hus hut hn1 hn6 hg1 hg2
    go_enter Tryz.func38, Tryz.ntmps38
    go_wp2_with fail
    refine (refUnpack_any s _ HS.out).mono ?_
    rintro e w1 ⟨fv, rfl, hown, hb1⟩
    rw [H0.out]
    rw [HL.out] at hown
    have hF := FieldsAt.of_own hown
    obtain ⟨ao, cap, rfl, hm, -⟩ := hF.openn
    obtain ⟨n, hn⟩ : ∃ n, l.length = n := ⟨_, rfl⟩
    have hn4 : n ≤ 400000 := by rw [← hn]; exact HLN.out
    rw [hn] at hF ⊢
    have HN : Hid (l.length = n) := hn
    have HF1 : Hid (FieldsAt w1.heap.size w1 (.slice ao n cap) l) := hF
    have HB1 : Hid (Below w.heap.size w w1) := ((Below.refl _ _).alloc (Nat.le_refl _) _).trans (hb1.mono (by simp))
    have HR1 : Hid (w1.heap[w.heap.size]? = some (BR Re.zero (.slice none 0 0))) := block_step (heap_alloc_new w (BR Re.zero (.slice none 0 0))) hb1
    clear hown hb1 hF hn hm
    go_wp2_with fail
    refine (value_any _ l 3 _ HF1.out).mono ?_
    rintro e w2 ⟨rfl, hb2⟩
    rw [HV.out.2.2.1]
    have HB2 : Hid (Below w.heap.size w w2) := HB1.out.trans (hb2.mono HB1.out.size)
    have HR2 : Hid (w2.heap[w.heap.size]? = some (BR Re.zero (.slice none 0 0))) := block_step HR1.out hb2
    have HF2 : Hid (FieldsAt w2.heap.size w2 (.slice ao n cap) l) := (HF1.out.below hb2 (Nat.le_refl _)).mono hb2.size
    clear hb2
    go_wp2_with fail
    refine (arefUnpack_any v3 _).mono ?_
    rintro e w3 ⟨rfl, hb3⟩
    rw [HU.out]
    have HB3 : Hid (Below w.heap.size w w3) := HB2.out.trans (hb3.mono HB2.out.size)
    have HR3 : Hid (w3.heap[w.heap.size]? = some (BR Re.zero (.slice none 0 0))) := block_step HR2.out hb3
    have HF3 : Hid (FieldsAt w3.heap.size w3 (.slice ao n cap) l) := (HF2.out.below hb3 (Nat.le_refl _)).mono hb3.size
    clear hb3 HB2 HR2 HF2 HB1 HR1 HF1
    go_upto_region 5 with fail
    obtain ⟨W4, hW4⟩ : ∃ W4, W4 = w3.alloc (BA uk ul us ut) := ⟨_, rfl⟩
    have bb4 : Below w3.heap.size w3 W4 := by rw [hW4]; exact (Below.refl _ _).alloc (Nat.le_refl _) _
    have HB4 : Hid (Below w.heap.size w W4) := HB3.out.trans (bb4.mono HB3.out.size)
    have HR4 : Hid (W4.heap[w.heap.size]? = some (BR Re.zero (.slice none 0 0))) := block_step HR3.out bb4
    have HF4 : Hid (FieldsAt W4.heap.size W4 (.slice ao n cap) l) := (HF3.out.below bb4 (Nat.le_refl _)).mono bb4.size
    have HFV : Hid (∀ V, Below W4.heap.size W4 V → FieldsAt V.heap.size V (.slice ao n cap) l) := fun V h => (HF4.out.below h (Nat.le_refl _)).mono h.size
    have HAD : Hid (∀ V, Below W4.heap.size W4 V → V.cell? ⟨w3.heap.size, 0, none⟩ = some (.int .i64 uk) ∧ V.cell? ⟨w3.heap.size, 1, none⟩ = some (.int .i64 ul) ∧ V.cell? ⟨w3.heap.size, 2, none⟩ = some (.int .i64 us) ∧ V.cell? ⟨w3.heap.size, 3, none⟩ = some (.int .i64 ut)) := by
      intro V h
      have h1 : W4.heap[w3.heap.size]? = some (BA uk ul us ut) := by rw [hW4]; exact heap_alloc_new w3 _
      exact four_of' (block_step h1 h)
    rw [← hW4]
    clear hW4 bb4 HB3 HR3 HF3
    go_cut [8] from 27 to 39 (fun u8 wc => ∃ b8 : Nat, u8 = .pointer (some ⟨b8, 0, none⟩) ∧ Hid (wc.heap[b8]? = some (BR ⟨n1, g1, g2, uk, ul, us, ut, v4, [], n6⟩ (.slice none 0 0))) ∧ Hid (Below W4.heap.size W4 wc) ∧ W4.heap.size ≤ b8)
    case first =>
      go_region_held3 (fun V => V.cell? ⟨w3.heap.size, 0, none⟩ = some (.int .i64 uk) ∧ V.cell? ⟨w3.heap.size, 1, none⟩ = some (.int .i64 ul) ∧ V.cell? ⟨w3.heap.size, 2, none⟩ = some (.int .i64 us) ∧ V.cell? ⟨w3.heap.size, 3, none⟩ = some (.int .i64 ut)) (first | exact HAD.out _ (by repeat (first | with_reducible assumption | with_reducible exact Below.refl _ _ | with_reducible refine Below.drew ?_ | with_reducible refine Below.setCell ?_ (by first | with_reducible assumption | exact Nat.le_refl _) _ | with_reducible refine Below.alloc ?_ (by first | with_reducible assumption | exact Nat.le_refl _) _))) (first
        | (go_at_call_of 64 (Value.int .i64 1); refine (value_any _ l 1 _ (HFV.out _ (by repeat (first | with_reducible assumption | with_reducible exact Below.refl _ _ | with_reducible refine Below.drew ?_ | with_reducible refine Below.setCell ?_ (by first | with_reducible assumption | exact Nat.le_refl _) _ | with_reducible refine Below.alloc ?_ (by first | with_reducible assumption | exact Nat.le_refl _) _)))).mono ?_; rintro e x1 ⟨rfl, hb1⟩; rw [HV.out.1]; have hq1 : Below W4.heap.size W4 x1 := below_next hb1 (by repeat (first | with_reducible assumption | with_reducible exact Below.refl _ _ | with_reducible refine Below.drew ?_ | with_reducible refine Below.setCell ?_ (by first | with_reducible assumption | exact Nat.le_refl _) _ | with_reducible refine Below.alloc ?_ (by first | with_reducible assumption | exact Nat.le_refl _) _)); have hs1 : W4.heap.size ≤ x1.heap.size := hq1.size; (first | (have hz := block_step (heap_alloc_new _ (BR Re.zero (.slice none 0 0))) hb1) | (have hz := block_step (w := (W4.alloc (BR Re.zero (.slice none 0 0))).drew) (heap_alloc_new W4 (BR Re.zero (.slice none 0 0))) hb1) | (have hz := block_step hz hb1) | skip); clear hb1)
        | (go_at_call_of 65 (Value.string v1); refine (rnumber_s v1 _ HZ.out.1).mono ?_; rintro e w' ⟨rfl, rfl⟩; rw [HNV.out.1.1])
        | (go_at_call_of 64 (Value.int .i64 2); refine (value_any _ l 2 _ (HFV.out _ (by repeat (first | with_reducible assumption | with_reducible exact Below.refl _ _ | with_reducible refine Below.drew ?_ | with_reducible refine Below.setCell ?_ (by first | with_reducible assumption | exact Nat.le_refl _) _ | with_reducible refine Below.alloc ?_ (by first | with_reducible assumption | exact Nat.le_refl _) _)))).mono ?_; rintro e x2 ⟨rfl, hb2⟩; rw [HV.out.2.1]; have hq2 : Below W4.heap.size W4 x2 := below_next hb2 (by repeat (first | with_reducible assumption | with_reducible exact Below.refl _ _ | with_reducible refine Below.drew ?_ | with_reducible refine Below.setCell ?_ (by first | with_reducible assumption | exact Nat.le_refl _) _ | with_reducible refine Below.alloc ?_ (by first | with_reducible assumption | exact Nat.le_refl _) _)); have hs2 : W4.heap.size ≤ x2.heap.size := hq2.size; (first | (have hz := block_step (heap_alloc_new _ (BR Re.zero (.slice none 0 0))) hb2) | (have hz := block_step (w := (W4.alloc (BR Re.zero (.slice none 0 0))).drew) (heap_alloc_new W4 (BR Re.zero (.slice none 0 0))) hb2) | (have hz := block_step hz hb2) | skip); clear hb2)
        | (go_at_call 66; refine (rnamed_any v2 _).mono ?_; rintro e x9 ⟨rfl, hb9⟩; rw [HNV.out.2.1, HNV.out.2.2]; have hq9 : Below W4.heap.size W4 x9 := below_next hb9 (by repeat (first | with_reducible assumption | with_reducible exact Below.refl _ _ | with_reducible refine Below.drew ?_ | with_reducible refine Below.setCell ?_ (by first | with_reducible assumption | exact Nat.le_refl _) _ | with_reducible refine Below.alloc ?_ (by first | with_reducible assumption | exact Nat.le_refl _) _)); have hs9 : W4.heap.size ≤ x9.heap.size := hq9.size; (first | (have hz := block_step (heap_alloc_new _ (BR Re.zero (.slice none 0 0))) hb9) | (have hz := block_step (w := (W4.alloc (BR Re.zero (.slice none 0 0))).drew) (heap_alloc_new W4 (BR Re.zero (.slice none 0 0))) hb9) | (have hz := block_step hz hb9) | skip); clear hb9)
        | (go_at_call_of 64 (Value.int .i64 4); refine (value_any _ l 4 _ (HFV.out _ (by repeat (first | with_reducible assumption | with_reducible exact Below.refl _ _ | with_reducible refine Below.drew ?_ | with_reducible refine Below.setCell ?_ (by first | with_reducible assumption | exact Nat.le_refl _) _ | with_reducible refine Below.alloc ?_ (by first | with_reducible assumption | exact Nat.le_refl _) _)))).mono ?_; rintro e x4 ⟨rfl, hb4⟩; rw [HV.out.2.2.2.1]; have hq4 : Below W4.heap.size W4 x4 := below_next hb4 (by repeat (first | with_reducible assumption | with_reducible exact Below.refl _ _ | with_reducible refine Below.drew ?_ | with_reducible refine Below.setCell ?_ (by first | with_reducible assumption | exact Nat.le_refl _) _ | with_reducible refine Below.alloc ?_ (by first | with_reducible assumption | exact Nat.le_refl _) _)); have hs4 : W4.heap.size ≤ x4.heap.size := hq4.size; (first | (have hz := block_step (heap_alloc_new _ (BR Re.zero (.slice none 0 0))) hb4) | (have hz := block_step (w := (W4.alloc (BR Re.zero (.slice none 0 0))).drew) (heap_alloc_new W4 (BR Re.zero (.slice none 0 0))) hb4) | (have hz := block_step hz hb4) | skip); clear hb4)
        | (go_at_call_of 64 (Value.int .i64 6); refine (value_any _ l 6 _ (HFV.out _ (by repeat (first | with_reducible assumption | with_reducible exact Below.refl _ _ | with_reducible refine Below.drew ?_ | with_reducible refine Below.setCell ?_ (by first | with_reducible assumption | exact Nat.le_refl _) _ | with_reducible refine Below.alloc ?_ (by first | with_reducible assumption | exact Nat.le_refl _) _)))).mono ?_; rintro e x6 ⟨rfl, hb6⟩; rw [HV.out.2.2.2.2]; have hq6 : Below W4.heap.size W4 x6 := below_next hb6 (by repeat (first | with_reducible assumption | with_reducible exact Below.refl _ _ | with_reducible refine Below.drew ?_ | with_reducible refine Below.setCell ?_ (by first | with_reducible assumption | exact Nat.le_refl _) _ | with_reducible refine Below.alloc ?_ (by first | with_reducible assumption | exact Nat.le_refl _) _)); have hs6 : W4.heap.size ≤ x6.heap.size := hq6.size; (first | (have hz := block_step (heap_alloc_new _ (BR Re.zero (.slice none 0 0))) hb6) | (have hz := block_step (w := (W4.alloc (BR Re.zero (.slice none 0 0))).drew) (heap_alloc_new W4 (BR Re.zero (.slice none 0 0))) hb6) | (have hz := block_step hz hb6) | skip); clear hb6; (first | (obtain ⟨z0, z1, z2, z3, z4, z5, z6, z7, z8, z9⟩ := ten_of hz; have zl := block_lt hz; have zf := fun j => frozen_of hz j) | skip))
        | (go_at_call_of 65 (Value.string v6); refine (rnumber_s v6 _ HZ.out.2).mono ?_; rintro e w' ⟨rfl, rfl⟩; rw [HNV.out.1.2]))
      all_goals
        go_wp2
        go_meet
        case rel =>
          first
          | with_reducible exact meet_new hq6 ⟨n1, g1, g2, uk, ul, us, ut, v4, [], n6⟩
          | exact meet_old hq6 hz (by first | with_reducible assumption | exact Nat.le_refl _) ⟨n1, g1, g2, uk, ul, us, ut, v4, [], n6⟩
    case rest =>
      obtain ⟨b8, rfl, HX8, HB8, hb8⟩ := hcut
      have HRS0 : Hid (Rs W4.heap.size b8 W4 ⟨n1, g1, g2, uk, ul, us, ut, v4, [], n6⟩ (.slice none 0 0) wc) := ⟨HX8.out, World.ownsRow_nil _ _ _ _, HB8.out, hb8, Nat.le_refl _⟩
      have HX : Hid (∀ i, i < n → ∃ b off, ao = some ⟨b, off, none⟩ ∧ b < W4.heap.size ∧ W4.cell? ⟨b, off + i * 2, none⟩ = some (.int .i64 (l.getD i (0, .empty)).1) ∧ W4.cell? ⟨b, off + i * 2 + 1, none⟩ = some (.string (l.getD i (0, .empty)).2)) := by
        obtain ⟨ao', cap', he, _, hx⟩ := HF4.out.openn
        rw [HN.out] at he hx
        simp only [Value.slice.injEq] at he
        obtain ⟨rfl, _, rfl⟩ := he
        exact hx
      have hRlt : w.heap.size < W4.heap.size := block_lt HR4.out
      clear HX8 HB8 HFV HAD HF4
      go_wp2_with fail
      go_loopw [42] (fun i wr => ∃ (k : Nat) (v : Value), k ≤ n ∧ i = .int .i64 k ∧ Hid (Rs W4.heap.size b8 W4 ⟨n1, g1, g2, uk, ul, us, ut, v4, (Pl.allOf (l.take k) 5).map Re.entOf, n6⟩ v wr)) (fun i _ => n - (intOf i).toNat)
      case atStart => exact ⟨0, .slice none 0 0, Nat.zero_le _, rfl, HRS0.out⟩
      case round =>
        obtain ⟨k, v, hk, rfl, HRS⟩ := hrel
        have hsz : W4.heap.size ≤ wr.heap.size := HRS.out.below.size
        have HRr : Hid (wr.heap[w.heap.size]? = some (BR Re.zero (.slice none 0 0))) := (HRS.out.below.block _ hRlt).trans HR4.out
        have HBr : Hid (Below w.heap.size w wr) := HB4.out.trans (HRS.out.below.mono HB4.out.size)
        by_cases hlt : k < n
        · obtain ⟨bb, off, rfl, hB, x0, x1⟩ := HX.out k hlt
          rw [← HRS.out.below.cell (p := ⟨bb, off + k * 2, none⟩) hB] at x0
          rw [← HRS.out.below.cell (p := ⟨bb, off + k * 2 + 1, none⟩) hB] at x1
          have hkl : k < l.length := by rw [HN.out]; exact hlt
          have HMEM : Hid (l.getD k (0, .empty) ∈ l) := by
            have : l.getD k (0, .empty) = l[k] := by simp [List.getD, hkl]
            rw [this]
            exact List.getElem_mem hkl
          have HHIT : Hid ((l.getD k (0, .empty)).1 = 5 → Pl.allOf (l.take (k + 1)) 5 = Pl.allOf (l.take k) 5 ++ [(l.getD k (0, .empty)).2]) := fun h => Pl.allOf_hit hkl rfl (by simpa using h)
          have HMISS : Hid ((l.getD k (0, .empty)).1 ≠ 5 → Pl.allOf (l.take (k + 1)) 5 = Pl.allOf (l.take k) 5) := fun h => Pl.allOf_miss hkl rfl (by simpa using h)
          generalize l.getD k (0, .empty) = f at *
          obtain ⟨t, y⟩ := f
          have hlt' : (k : Int) < (n : Int) := by omega
          clear hkl
          by_cases ht : t = 5
          · subst ht
            have HSY : Hid (y.size ≤ 65535) := HSM.out _ HMEM.out
            by_cases hy : y.size < 13
            · have HNO := Re.isRep_no (s := s) (.inr (.inl (by
                have hw : Re.right (Re.replyOf (Pl.unpOut s.data.toList)) = false := Re.wrong_iff.2 (by rw [HL.out]; exact Re.short_wrong HMEM.out hy)
                unfold Re.packErr
                rw [hw]
                decide)))
              have H : Hid (C = Re.zero ∧ E = 4) := ⟨by rw [← HCE.out.1, HNO.1], by rw [← HCE.out.2, HNO.2]⟩
              have hy' : (y.size : Int) < 13 := by omega
              have HRa : Hid ((wr.alloc (BF 5 y)).heap[w.heap.size]? = some (BR Re.zero (.slice none 0 0))) := (Below.heap_alloc _ _ _ (block_lt HRr.out)).trans HRr.out
              obtain ⟨d0, d1, d2, d3, d4, d5, d6, d7, d8, d9⟩ := ten_of HRr.out
              have fa : ∀ j, wr.frozen? ⟨w.heap.size, j, none⟩ = false := fun j => frozen_of HRr.out j
              have hl3 : w.heap.size < wr.heap.size := block_lt HRr.out
              have HBa : Hid (Below w.heap.size w (wr.alloc (BF 5 y))) := HBr.out.alloc HBr.out.size _
              clear HNO hy
              go_wp2
              (try simp only [Exit.inBlock, Exit.then])
              refine bodyPost_ret (v := .tuple #[VR Re.zero (.slice none 0 0), .int .i64 4]) (by simp [results, Tryz.results38, go_sem, Re.zero, hl3, d0, d1, d2, d3, d4, d5, d6, d7, d8, d9]) rfl ⟨.slice none 0 0, ?_, ?_, (putR_below HBr.out (Nat.le_refl _) Re.zero (.slice none 0 0)).alloc (putR_below HBr.out (Nat.le_refl _) Re.zero (.slice none 0 0)).size _⟩
              · rw [H.out.1, H.out.2]
              · rw [H.out.1]
                exact At.nil
            · have hy' : ¬ ((y.size : Int) < 13) := by omega
              have hys : 13 ≤ y.size := by omega
              obtain ⟨i0, hi, hz0, hz1, hz2⟩ := info_parts infoE
              obtain ⟨x, hx⟩ : ∃ x : Ent, (y.extract 13 y.size, Pl.numVal (y.extract 0 6), hno (y.extract 6 13), hgen (y.extract 6 13)) = x := ⟨_, rfl⟩
              obtain ⟨ES, hES⟩ : ∃ ES, (Pl.allOf (l.take k) 5).map Re.entOf = ES := ⟨_, rfl⟩
              have HNX : Hid ((Pl.allOf (l.take (k + 1)) 5).map Re.entOf = ES ++ [x]) := by
                show _ = _
                rw [HHIT.out rfl, List.map_append, hES, ← hx]
                show ES ++ [Re.entOf y] = _
                unfold Re.entOf
                rw [if_neg hy]
              have HX4 : Hid (Pl.numVal (y.extract 0 6) = x.2.1 ∧ hno (y.extract 6 13) = x.2.2.1 ∧ hgen (y.extract 6 13) = x.2.2.2) := by rw [← hx]; exact ⟨rfl, rfl, rfl⟩
              have HX1 : Hid (y.extract 13 y.size = x.1) := by show _ = _; rw [← hx]
              have HEL : Hid (ES.length ≤ 1000000) := by
                rw [← hES]
                show (List.map Re.entOf (Pl.allOf (l.take k) 5)).length ≤ 1000000
                unfold Pl.allOf
                rw [List.length_map, List.length_map]
                have h1 := List.length_filter_le (fun p : Int × ByteArray => p.1 == 5) (l.take k)
                have h2 : (l.take k).length ≤ l.length := by rw [List.length_take]; omega
                have h3 : l.length ≤ 400000 := HLN.out
                exact Nat.le_trans (List.length_filter_le _ _) (by omega)
              have HZY : Hid ((y.extract 0 6).size ≤ maxLen) := by show (y.extract 0 6).size ≤ maxLen; rw [ByteArray.size_extract]; unfold maxLen; omega
              rw [hES] at HRS
              obtain ⟨ao2, cap2, hv, -, -⟩ := (row_at HRS.out.row).open
              simp only at hv
              subst hv
              obtain ⟨r0, hr0⟩ : ∃ r0 : Rep, (⟨n1, g1, g2, uk, ul, us, ut, v4, ES, n6⟩ : Rep) = r0 := ⟨_, rfl⟩
              have HRD : Hid (Rs W4.heap.size b8 W4 ⟨n1, g1, g2, uk, ul, us, ut, v4, ES, n6⟩ (.slice ao2 ES.length cap2) (wr.alloc (BF 5 y)).drew) := (HRS.out.step ((Below.refl _ _).alloc (Nat.le_refl _) _)).drew
              have HD1 : Hid ((wr.alloc (BF 5 y)).drew.heap[wr.heap.size]? = some (BF 5 y)) := heap_alloc_new wr _
              clear hr0 hx hES hy
              clear r0
              go_wp2
              have hy6 : 6 ≤ (y.size : Int) := by omega
              have hS0 : (wr.alloc (BF 5 y)).drew.cell? ⟨b8, 8, none⟩ = some (.slice ao2 ES.length cap2) ∧ (wr.alloc (BF 5 y)).drew.cell? ⟨wr.heap.size, 1, none⟩ = some (.string y) := ⟨(ten_of HRD.out.box).2.2.2.2.2.2.2.2.1, (bf_of HD1.out).2⟩
              refine Late.start (fun V => V.cell? ⟨b8, 8, none⟩ = some (.slice ao2 ES.length cap2) ∧ V.cell? ⟨wr.heap.size, 1, none⟩ = some (.string y)) 17 (by kernel_rfl) ?_
              refine Late.take 0 (.pointer (some ⟨b8, 8, none⟩)) rfl (by kernel_rfl) (by kernel_rfl) (by kernel_rfl) (by kernel_rfl) rfl (fun V hV => by obtain ⟨hV1, hV2⟩ := hV; go_simp) hS0 ?_
              refine Late.take 1 (.slice ao2 ES.length cap2) rfl (by kernel_rfl) (by kernel_rfl) (by kernel_rfl) (by kernel_rfl) rfl (fun V hV => by obtain ⟨hV1, hV2⟩ := hV; go_simp) hS0 ?_
              refine Late.take 2 (.pointer (some ⟨wr.heap.size, 1, none⟩)) rfl (by kernel_rfl) (by kernel_rfl) (by kernel_rfl) (by kernel_rfl) rfl (fun V hV => by obtain ⟨hV1, hV2⟩ := hV; go_simp) hS0 ?_
              refine Late.take 3 (.string y) rfl (by kernel_rfl) (by kernel_rfl) (by kernel_rfl) (by kernel_rfl) rfl (fun V hV => by obtain ⟨hV1, hV2⟩ := hV; go_simp) hS0 ?_
              refine Late.take 4 (.string (y.extract 13 y.size)) rfl (by kernel_rfl) (by kernel_rfl) (by kernel_rfl) (by kernel_rfl) rfl (fun V hV => by obtain ⟨hV1, hV2⟩ := hV; go_simp) hS0 ?_
              refine Late.take 5 (.pointer (some ⟨wr.heap.size, 1, none⟩)) rfl (by kernel_rfl) (by kernel_rfl) (by kernel_rfl) (by kernel_rfl) rfl (fun V hV => by obtain ⟨hV1, hV2⟩ := hV; go_simp) hS0 ?_
              refine Late.take 6 (.string y) rfl (by kernel_rfl) (by kernel_rfl) (by kernel_rfl) (by kernel_rfl) rfl (fun V hV => by obtain ⟨hV1, hV2⟩ := hV; go_simp) hS0 ?_
              refine Late.take 7 (.string (y.extract 0 6)) rfl (by kernel_rfl) (by kernel_rfl) (by kernel_rfl) (by kernel_rfl) rfl (fun V hV => by obtain ⟨hV1, hV2⟩ := hV; go_simp) hS0 ?_
              refine Late.take 9 (.pointer (some ⟨wr.heap.size, 1, none⟩)) rfl (by kernel_rfl) (by kernel_rfl) (by kernel_rfl) (by kernel_rfl) rfl (fun V hV => by obtain ⟨hV1, hV2⟩ := hV; go_simp) hS0 ?_
              refine Late.take 10 (.string y) rfl (by kernel_rfl) (by kernel_rfl) (by kernel_rfl) (by kernel_rfl) rfl (fun V hV => by obtain ⟨hV1, hV2⟩ := hV; go_simp) hS0 ?_
              refine Late.take 11 (.string (y.extract 6 13)) rfl (by kernel_rfl) (by kernel_rfl) (by kernel_rfl) (by kernel_rfl) rfl (fun V hV => by obtain ⟨hV1, hV2⟩ := hV; go_simp) hS0 ?_
              refine Late.one 8 rfl (by kernel_rfl) rfl ?_
              simp only [List.getElem_toArray, List.getElem_cons_succ, List.getElem_cons_zero]
              go_simp
              go_at_call 65
              refine (rnumber_s _ _ HZY.out).mono ?_
              rintro e w' ⟨rfl, rfl⟩
              rw [HX4.out.1]
              refine ⟨hS0, ?_⟩
              refine Late.one 12 rfl (by kernel_rfl) rfl ?_
              simp only [List.getElem_toArray, List.getElem_cons_succ, List.getElem_cons_zero]
              go_simp
              go_at_call 66
              refine (rnamed_any _ _).mono ?_
              rintro e w5 ⟨rfl, hb5⟩
              rw [HX4.out.2.1, HX4.out.2.2]
              have HR5 : Hid (Rs W4.heap.size b8 W4 ⟨n1, g1, g2, uk, ul, us, ut, v4, ES, n6⟩ (.slice ao2 ES.length cap2) w5) := HRD.out.step hb5
              have HD5 : Hid (w5.heap[wr.heap.size]? = some (BF 5 y)) := block_step HD1.out hb5
              have hS5 : w5.cell? ⟨b8, 8, none⟩ = some (.slice ao2 ES.length cap2) ∧ w5.cell? ⟨wr.heap.size, 1, none⟩ = some (.string y) := ⟨(ten_of HR5.out.box).2.2.2.2.2.2.2.2.1, (bf_of HD5.out).2⟩
              have hl5 : wr.heap.size < w5.heap.size := block_lt HD5.out
              have hl6 : b8 < w5.heap.size := block_lt HR5.out.box
              refine ⟨hS5, ?_⟩
              clear hb5
              refine Late.one 13 rfl (by kernel_rfl) rfl ?_
              simp only [List.getElem_toArray, List.getElem_cons_succ, List.getElem_cons_zero]
              go_simp
              obtain ⟨hS5a, hS5b⟩ := hS5
              refine Late.one 14 rfl (by kernel_rfl) rfl ?_
              simp only [List.getElem_toArray, List.getElem_cons_succ, List.getElem_cons_zero]
              go_simp
              refine Late.one 15 rfl (by kernel_rfl) rfl ?_
              simp only [List.getElem_toArray, List.getElem_cons_succ, List.getElem_cons_zero]
              rw [HX1.out]
              have hel : ES.length ≤ 1000000 := HEL.out
              refine wp_append_lies _ (.tmp 55) (.tmp 68) 46 rfl W4.heap.size 144 i0 (.agg #[.string ⟨#[]⟩, .int .i64 0, .int .i64 0, .int .i64 0]) 4 40 Tryz.underlying46 hi hz0 hz1 hz2 rfl (by decide) _ ES.length _ (by simp [Act.eval]) (HR5.out.row.alloc _) ⟨w5.heap.size, 0, none⟩ 1 1 [.string x.1, .int .i64 x.2.1, .int .i64 x.2.2.1, .int .i64 x.2.2.2] (by simp [Act.eval]) rfl (four_new _ _ rfl _ _ _ _ _) (EE.one x) (by decide) (by unfold maxLen; omega) (by omega) (by have := HR5.out.below.size; have := HR5.out.start; simp; omega) (w5.heap.size + 1) (by simp) ?_
              intro gg cap3 w6 hown6 hgrow6 hat6 hlt6
              obtain ⟨q0, q1, q2, HQ⟩ := ent_added (x := x) HR5.out hown6 hgrow6
              have HD6 : Hid (w6.heap[wr.heap.size]? = some (BF 5 y)) := App.keep (HR5.out.row.alloc _) hgrow6 ((Below.heap_alloc _ _ _ hl5).trans HD5.out) (by decide)
              have hS6 : w6.cell? ⟨b8, 8, none⟩ = some (.slice ao2 ES.length cap2) ∧ w6.cell? ⟨wr.heap.size, 1, none⟩ = some (.string y) := ⟨q0, (bf_of HD6.out).2⟩
              refine ⟨fun _ => hS6, ?_⟩
              clear hown6 hgrow6 hat6 hlt6 hS5a hS5b
              refine Late.take 16 (.pointer (some ⟨b8, 8, none⟩)) rfl (by kernel_rfl) (by kernel_rfl) (by kernel_rfl) (by kernel_rfl) rfl (fun V hV => by obtain ⟨hV1, hV2⟩ := hV; go_simp) hS6 ?_
              clear hS6
              refine Late.one 17 rfl (by kernel_rfl) rfl ?_
              simp only [List.getElem_toArray, List.getElem_cons_succ, List.getElem_cons_zero]
              go_simp
              refine Late.done (by kernel_rfl) ?_
              simp only [Exit.inBlock, Exit.then]
              go_wp2
              go_roundw
              case rel => exact ⟨k + 1, _, by omega, by go_num, by rw [HNX.out]; exact HQ.out.1⟩
              case measure => simp [intOf]; omega
          · have ht' : (t != 5) = true := by simpa using ht
            have HK1 : Hid (Rs W4.heap.size b8 W4 ⟨n1, g1, g2, uk, ul, us, ut, v4, (Pl.allOf (l.take (k + 1)) 5).map Re.entOf, n6⟩ v (wr.alloc (BF t y))) := by
              rw [HMISS.out ht]
              exact HRS.out.step ((Below.refl _ _).alloc (Nat.le_refl _) _)
            go_wp2
            go_roundw
            case rel => exact ⟨k + 1, v, by omega, by go_num, HK1.out⟩
            case measure => simp [intOf]; omega
        · obtain rfl : k = n := by omega
          have htk : l.take k = l := by rw [← HN.out]; exact List.take_length
          have hlt2 : ¬ ((k : Int) < (k : Int)) := by omega
          rw [HRE.out _ htk] at HRS
          have HES : Hid (∀ x ∈ (Re.replyOf l).ents, x.1.size ≤ maxLen) := Re.ent_small HSM.out
          have HCC : Hid (Re.replyOf (Pl.unpOut s.data.toList) = Re.replyOf l) := by show _ = _; rw [HL.out]
          clear HRE HRS0 htk HX
          generalize Re.replyOf l = r at *
          have HV2 : Hid (At EE (fun b => W4.heap.size ≤ b) wr v r.ents) := row_at HRS.out.row
          obtain ⟨ao2, cap2, hv, -, -⟩ := HV2.out.open
          obtain ⟨z, hz⟩ : ∃ z, r.ents.length = z := ⟨_, rfl⟩
          rw [hz] at hv
          subst hv
          clear hz
          have hl2 := block_lt HRr.out
          obtain ⟨c0, c1, c2, c3, c4, c5, c6, c7, c8, c9⟩ := ten_of HRS.out.box
          go_wp2_with fail
          refine (repRefPack_any r _ _ HV2.out.wide HES.out).mono ?_
          rintro e w3' ⟨rfl, hb3⟩
          have HK3 : Hid (w3'.heap[b8]? = some (BR r (.slice ao2 z cap2))) := block_step HRS.out.box hb3
          have HR3 : Hid (w3'.heap[w.heap.size]? = some (BR Re.zero (.slice none 0 0))) := block_step HRr.out hb3
          have HB3 : Hid (Below w.heap.size w w3') := HBr.out.trans (hb3.mono HBr.out.size)
          have HV3 : Hid (At EE (fun b => W4.heap.size ≤ b) w3' (.slice ao2 z cap2) r.ents) := HV2.out.up hb3
          clear hb3 c0 c1 c2 c3 c4 c5 c6 c7 c8 c9
          have fa : ∀ j, w3'.frozen? ⟨w.heap.size, j, none⟩ = false := fun j => by simp [World.frozen?, HR3.out]
          have hl3 : w.heap.size < w3'.heap.size := block_lt HR3.out
          obtain ⟨d0, d1, d2, d3, d4, d5, d6, d7, d8, d9⟩ := ten_of HR3.out
          obtain ⟨c0, c1, c2, c3, c4, c5, c6, c7, c8, c9⟩ := ten_of HK3.out
          by_cases hp : Re.packErr r = 0
          · by_cases hq : Re.packOut r = s
            · have HY := Re.isRep_yes H0.out (by rw [HCC.out]; exact hp) (by rw [HCC.out]; exact hq)
              have H : Hid (C = r ∧ E = 0) := ⟨by rw [← HCE.out.1, HY.1, HCC.out], by rw [← HCE.out.2, HY.2]⟩
              rw [hp, hq]
              have t1 : (s.toList == s.toList) = true := beq_self_eq_true _
              clear hp hq HY
              go_wp2
              refine bodyPost_ret (v := .tuple #[VR r (.slice ao2 z cap2), .int .i64 0]) (by simp [results, Tryz.results38, go_sem, d0, d1, d2, d3, d4, d5, d6, d7, d8, d9]) rfl ⟨.slice ao2 z cap2, ?_, ?_, putR_below HB3.out (Nat.le_refl _) r (.slice ao2 z cap2)⟩
              · rw [H.out.1, H.out.2]
              · rw [H.out.1]
                exact (HV3.out.grown (putR_grown w3' w.heap.size r (.slice ao2 z cap2)) (fun g hg hle => by cases hg; omega)).imp (fun b (hb : W4.heap.size ≤ b) _ => by show w.heap.size ≤ b; omega)
            · have HY := Re.isRep_no (s := s) (.inr (.inr (by rw [HCC.out]; exact hq)))
              have H : Hid (C = Re.zero ∧ E = 4) := ⟨by rw [← HCE.out.1, HY.1], by rw [← HCE.out.2, HY.2]⟩
              rw [hp]
              have t1 := str_ne hq
              clear hp hq HY
              generalize Re.packOut r = p at *
              go_wp2
              refine bodyPost_ret (v := .tuple #[VR Re.zero (.slice none 0 0), .int .i64 4]) (by simp [results, Tryz.results38, go_sem, Re.zero, d0, d1, d2, d3, d4, d5, d6, d7, d8, d9]) rfl ⟨.slice none 0 0, ?_, ?_, putR_below HB3.out (Nat.le_refl _) Re.zero (.slice none 0 0)⟩
              · rw [H.out.1, H.out.2]
              · rw [H.out.1]
                exact At.nil
          · have HY := Re.isRep_no (s := s) (.inr (.inl (by rw [HCC.out]; exact hp)))
            have H : Hid (C = Re.zero ∧ E = 4) := ⟨by rw [← HCE.out.1, HY.1], by rw [← HCE.out.2, HY.2]⟩
            have hp' : Re.packErr r = 4 := by unfold Re.packErr at hp ⊢; split at hp <;> simp_all
            rw [hp']
            clear hp hp' HY
            generalize Re.packOut r = p at *
            go_wp2
            refine bodyPost_ret (v := .tuple #[VR Re.zero (.slice none 0 0), .int .i64 4]) (by simp [results, Tryz.results38, go_sem, Re.zero, d0, d1, d2, d3, d4, d5, d6, d7, d8, d9]) rfl ⟨.slice none 0 0, ?_, ?_, putR_below HB3.out (Nat.le_refl _) Re.zero (.slice none 0 0)⟩
            · rw [H.out.1, H.out.2]
            · rw [H.out.1]
              exact At.nil
  · have H1 := Re.isRep_no (.inl h0)
    have H : Hid (C = Re.zero ∧ E = 4) := ⟨HCE.out.1.symm.trans H1.1, HCE.out.2.symm.trans H1.2⟩
    obtain ⟨q, hq⟩ : ∃ q, Pl.unpErr s.data.toList = q := ⟨_, rfl⟩
    have hq1 : (q != 0) = true := by rw [← hq]; simpa using h0
    have HQ : Hid (Pl.unpErr s.data.toList = q) := hq
    clear h0 H1 hq
    go_enter Tryz.func38, Tryz.ntmps38
    go_wp2_with fail
    refine (refUnpack_any s _ HS.out).mono ?_
    rintro e w1 ⟨fv, rfl, hown, hb1⟩
    rw [HQ.out]
    have HB1 : Hid (Below w.heap.size w w1) := ((Below.refl _ _).alloc (Nat.le_refl _) _).trans (hb1.mono (by simp))
    have HR1 : Hid (w1.heap[w.heap.size]? = some (BR Re.zero (.slice none 0 0))) := block_step (heap_alloc_new w (BR Re.zero (.slice none 0 0))) hb1
    have fa : ∀ j, w1.frozen? ⟨w.heap.size, j, none⟩ = false := fun j => by simp [World.frozen?, HR1.out]
    have hl3 : w.heap.size < w1.heap.size := block_lt HR1.out
    obtain ⟨d0, d1, d2, d3, d4, d5, d6, d7, d8, d9⟩ := ten_of HR1.out
    clear hown hb1
    go_wp2
    refine bodyPost_ret (v := .tuple #[VR Re.zero (.slice none 0 0), .int .i64 4]) (by simp [results, Tryz.results38, go_sem, Re.zero, d0, d1, d2, d3, d4, d5, d6, d7, d8, d9]) rfl ⟨.slice none 0 0, ?_, ?_, putR_below HB1.out (Nat.le_refl _) Re.zero (.slice none 0 0)⟩
    · rw [H.out.1, H.out.2]
    · rw [H.out.1]
      exact At.nil
theorem repRefUnpack_any (s : ByteArray) (w : World) (hs : s.size ≤ 1048576) :
    Calls Tryz.prog 38 #[.string s] w fun e w' => ∃ v, e = .returned (.tuple #[VR (Re.unpR s.data.toList) v, .int .i64 (Re.unpE s.data.toList)]) ∧ AtW EE w' v (Re.unpR s.data.toList).ents ∧ Below w.heap.size w w' :=
  (repRefUnpack_at s w hs).mono fun _ _ ⟨v, he, hv, hb⟩ => ⟨v, he, hv.wide, hb⟩
end Go.Proofs.YtkdhbjmpjbdobaaGreatDoor.Ns
/- SHear -/
namespace Go.Proofs.YtkdhbjmpjbdobaaGreatDoor
open Go.ChangeShapes Go.WideShapes Go.ChangeAt Go.RowKit Go.Deep Sk
set_option maxRecDepth 100000
abbrev BMf (m : Me.Mm) (u z : Value) : Obj := BMr m u z
set_option maxRecDepth 100000 in
set_option maxHeartbeats 2000000 in
theorem rhear_no {f : Int} (k : Int) (x : ByteArray) (A : Nat) (s : Sb) (b : ByteArray) (lv : Value) (w : World) (h : Rf w A s b lv) (hn : Pn.Is s.n f) (hl : letB s k x = false) : Calls Tryz.prog 13 #[.pointer (some ⟨A, 0, none⟩), .int .i64 k, .string x] w fun e w' => e = .returned (.bool false) ∧ Below w.heap.size w w' := by
  have H : Hid (Rf w A s b lv) := h
  have HN : Hid (Pn.Is s.n f) := hn
  clear h hn
  by_cases h2 : 0 ≤ k ∧ k < s.n
  · obtain ⟨k0, k1⟩ := h2
    have g1 : ¬ k < 0 := by omega
    have g2 : ¬ s.n ≤ k := by omega
    have g1' : decide (k < 0) = false := decide_eq_false g1
    have g2' : decide (s.n ≤ k) = false := decide_eq_false g2
    by_cases h1 : Me.unpE x = 0
    · by_cases h3 : (Me.unpM x).k = 2
      · have h4 : ((Me.unpM x).cl != s.id) = true := by
          rw [bne_iff_ne]
          exact fun e => by rw [letB_iff.2 ⟨h1, ⟨k0, k1⟩, h3, e⟩] at hl; cases hl
        have h3' : ((Me.unpM x).k != 2) = false := by simp [h3]
        clear hl h3 k0 k1
        obtain ⟨c0, c1, c2, c3, c4, c5, c6, c7, c8⟩ := H.out.cells
        go_enter Tryz.func13, Tryz.ntmps13
        go_wp2_with fail
        refine (rUnpack_any x _).mono ?_
        rintro e w1 ⟨⟨u, z, rfl, hm⟩, hb1⟩
        obtain ⟨p1, d1, rfl, -, -⟩ := hm.lives.open
        obtain ⟨p2, d2, rfl, -, -⟩ := hm.items.open
        clear hm
        generalize (Me.unpM x).lives.length = n1
        generalize (Me.unpM x).items.length = n2
        obtain ⟨X, hX⟩ : ∃ X, w1.alloc (BMr (Me.unpM x) (.slice p1 n1 d1) (.slice p2 n2 d2)) = X := ⟨_, rfl⟩
        have HX : Hid (Rf X A s b lv ∧ Below w.heap.size w X) := by
          have : Below w.heap.size w X := by rw [← hX]; exact bup hb1 (below_alloc _ _)
          exact ⟨H.out.up this, this⟩
        obtain ⟨q0, q1, q2, q3, q4, q5, q6, q7, q8, q9, q10, q11, q12, q13, q14⟩ := mr_of (heap_alloc_new w1 (BMr (Me.unpM x) (.slice p1 n1 d1) (.slice p2 n2 d2)))
        rw [hX] at q0 q1 q2 q3 q4 q5 q6 q7 q8 q9 q10 q11 q12 q13 q14
        clear hb1 c0 c1 c2 c3 c4 c5 c6 c7 c8
        obtain ⟨c0, c1, c2, c3, c4, c5, c6, c7, c8⟩ := HX.out.1.cells
        rw [h1]
        go_wp2_with fail
        go_quiet (fail)
        go_wp2
        go_ret
        exact ⟨rfl, ⟨HX.out.2.os, HX.out.2.tape, HX.out.2.output, HX.out.2.size, HX.out.2.block⟩⟩
      · have h3' : ((Me.unpM x).k != 2) = true := by rw [bne_iff_ne]; exact h3
        clear hl k0 k1 h3
        obtain ⟨c0, c1, c2, c3, c4, c5, c6, c7, c8⟩ := H.out.cells
        go_enter Tryz.func13, Tryz.ntmps13
        go_wp2_with fail
        refine (rUnpack_any x _).mono ?_
        rintro e w1 ⟨⟨u, z, rfl, hm⟩, hb1⟩
        obtain ⟨p1, d1, rfl, -, -⟩ := hm.lives.open
        obtain ⟨p2, d2, rfl, -, -⟩ := hm.items.open
        clear hm
        generalize (Me.unpM x).lives.length = n1
        generalize (Me.unpM x).items.length = n2
        obtain ⟨X, hX⟩ : ∃ X, w1.alloc (BMr (Me.unpM x) (.slice p1 n1 d1) (.slice p2 n2 d2)) = X := ⟨_, rfl⟩
        have HX : Hid (Rf X A s b lv ∧ Below w.heap.size w X) := by
          have : Below w.heap.size w X := by rw [← hX]; exact bup hb1 (below_alloc _ _)
          exact ⟨H.out.up this, this⟩
        obtain ⟨q0, q1, q2, q3, q4, q5, q6, q7, q8, q9, q10, q11, q12, q13, q14⟩ := mr_of (heap_alloc_new w1 (BMr (Me.unpM x) (.slice p1 n1 d1) (.slice p2 n2 d2)))
        rw [hX] at q0 q1 q2 q3 q4 q5 q6 q7 q8 q9 q10 q11 q12 q13 q14
        clear hb1 c0 c1 c2 c3 c4 c5 c6 c7 c8
        obtain ⟨c0, c1, c2, c3, c4, c5, c6, c7, c8⟩ := HX.out.1.cells
        rw [h1]
        go_wp2_with fail
        go_quiet (fail)
        go_wp2
        go_ret
        exact ⟨rfl, ⟨HX.out.2.os, HX.out.2.tape, HX.out.2.output, HX.out.2.size, HX.out.2.block⟩⟩
    · have h1' : (Me.unpE x != 0) = true := by rw [bne_iff_ne]; exact h1
      clear hl k0 k1
      obtain ⟨c0, c1, c2, c3, c4, c5, c6, c7, c8⟩ := H.out.cells
      go_enter Tryz.func13, Tryz.ntmps13
      go_wp2_with fail
      refine (rUnpack_any x _).mono ?_
      rintro e w1 ⟨⟨u, z, rfl, hm⟩, hb1⟩
      obtain ⟨p1, d1, rfl, -, -⟩ := hm.lives.open
      obtain ⟨p2, d2, rfl, -, -⟩ := hm.items.open
      clear hm
      generalize (Me.unpM x).lives.length = n1
      generalize (Me.unpM x).items.length = n2
      obtain ⟨X, hX⟩ : ∃ X, w1.alloc (BMr (Me.unpM x) (.slice p1 n1 d1) (.slice p2 n2 d2)) = X := ⟨_, rfl⟩
      have HX : Hid (Rf X A s b lv ∧ Below w.heap.size w X) := by
        have : Below w.heap.size w X := by rw [← hX]; exact bup hb1 (below_alloc _ _)
        exact ⟨H.out.up this, this⟩
      obtain ⟨q0, q1, q2, q3, q4, q5, q6, q7, q8, q9, q10, q11, q12, q13, q14⟩ := mr_of (heap_alloc_new w1 (BMr (Me.unpM x) (.slice p1 n1 d1) (.slice p2 n2 d2)))
      rw [hX] at q0 q1 q2 q3 q4 q5 q6 q7 q8 q9 q10 q11 q12 q13 q14
      clear hb1 c0 c1 c2 c3 c4 c5 c6 c7 c8
      obtain ⟨c0, c1, c2, c3, c4, c5, c6, c7, c8⟩ := HX.out.1.cells
      generalize Me.unpE x = ue at h1 h1' ⊢
      clear h1
      go_wp2_with fail
      go_quiet (fail)
      go_wp2
      go_ret
      exact ⟨rfl, ⟨HX.out.2.os, HX.out.2.tape, HX.out.2.output, HX.out.2.size, HX.out.2.block⟩⟩
  · clear hl
    by_cases g1 : k < 0
    · obtain ⟨c0, c1, c2, c3, c4, c5, c6, c7, c8⟩ := H.out.cells
      go_enter Tryz.func13, Tryz.ntmps13
      go_wp2
      go_ret
      exact ⟨rfl, Below.refl _ _⟩
    · have g2 : s.n ≤ k := by omega
      obtain ⟨c0, c1, c2, c3, c4, c5, c6, c7, c8⟩ := H.out.cells
      go_enter Tryz.func13, Tryz.ntmps13
      go_wp2
      go_ret
      exact ⟨rfl, Below.refl _ _⟩
set_option maxRecDepth 100000 in
set_option maxHeartbeats 2000000 in
theorem rhear_fol {f : Int} (k : Int) (x : ByteArray) (A : Nat) (s : Sb) (b : ByteArray) (lv : Value) (w : World) (h : Rf w A s b lv) (hn : Pn.Is s.n f) (hl : letB s k x = true) (ho : (Me.unpM x).o = 0) : Calls Tryz.prog 13 #[.pointer (some ⟨A, 0, none⟩), .int .i64 k, .string x] w fun e w' => e = .returned (.bool false) ∧ Rf w' A (folS f s (Me.unpM x).v) b lv ∧ Ao A w w' := by
  have H : Hid (Rf w A s b lv) := h
  have HN : Hid (Pn.Is s.n f) := hn
  clear h hn
  obtain ⟨h1, h2, h3, h4⟩ := letB_iff.1 hl
  have HV : Hid (0 ≤ (Me.unpM x).v ∧ (Me.unpM x).v ≤ 1099511627776) := (unp_nums h1).1
  have g1 : ¬ k < 0 := by omega
  have g2 : ¬ s.n ≤ k := by omega
  have g1' : decide (k < 0) = false := decide_eq_false g1
  have g2' : decide (s.n ≤ k) = false := decide_eq_false g2
  have H3 : Hid ((Me.unpM x).k = 2 ∧ (Me.unpM x).cl = s.id ∧ (Me.unpM x).o = 0) := ⟨h3, h4, ho⟩
  clear hl h2 h3 h4 ho
  by_cases hv : s.v ≤ (Me.unpM x).v
  · have HF : Hid (folS f s (Me.unpM x).v = { s with v := (Me.unpM x).v, g := true, t := (Me.unpM x).v % (f + 1) }) := by show _ = _; unfold folS; rw [if_neg (by omega)]
    obtain ⟨c0, c1, c2, c3, c4, c5, c6, c7, c8⟩ := H.out.cells
    go_enter Tryz.func13, Tryz.ntmps13
    go_wp2_with fail
    refine (rUnpack_any x _).mono ?_
    rintro e w1 ⟨⟨u, z, rfl, hm⟩, hb1⟩
    obtain ⟨p1, d1, rfl, -, -⟩ := hm.lives.open
    obtain ⟨p2, d2, rfl, -, -⟩ := hm.items.open
    clear hm
    generalize (Me.unpM x).lives.length = n1
    generalize (Me.unpM x).items.length = n2
    obtain ⟨X, hX⟩ : ∃ X, w1.alloc (BMr (Me.unpM x) (.slice p1 n1 d1) (.slice p2 n2 d2)) = X := ⟨_, rfl⟩
    have HX : Hid (Rf X A s b lv ∧ Below w.heap.size w X) := by
      have : Below w.heap.size w X := by rw [← hX]; exact bup hb1 (below_alloc _ _)
      exact ⟨H.out.up this, this⟩
    obtain ⟨q0, q1, q2, q3, q4, q5, q6, q7, q8, q9, q10, q11, q12, q13, q14⟩ := mr_of (heap_alloc_new w1 (BMr (Me.unpM x) (.slice p1 n1 d1) (.slice p2 n2 d2)))
    rw [hX] at q0 q1 q2 q3 q4 q5 q6 q7 q8 q9 q10 q11 q12 q13 q14
    clear hb1 c0 c1 c2 c3 c4 c5 c6 c7 c8
    obtain ⟨c0, c1, c2, c3, c4, c5, c6, c7, c8⟩ := HX.out.1.cells
    rw [h1]
    go_wp2_with fail
    have h3' : ((Me.unpM x).k != 2) = false := by simp [H3.out.1]
    have h4' : ((Me.unpM x).cl != s.id) = false := by simp [H3.out.2.1]
    go_quiet (fail)
    have ho := H3.out.2.2
    have HD : Hid (∀ q, Rf (X.drewN q) A s b lv ∧ Ao A w (X.drewN q)) := fun q => ⟨HX.out.1, (Ao.of HX.out.2).trans ⟨rfl, rfl, rfl, Nat.le_refl _, fun _ _ _ => rfl⟩⟩
    have gg := HX.out.1.fr
    go_wp2_with fail
    refine (refPrimary_yes (Me.unpM x).v _ HN.out HV.out.1 HV.out.2).mono ?_
    rintro e w5 ⟨rfl, rfl⟩
    go_wp2
    go_ret
    rw [HF.out]
    refine ⟨rfl, ?_, ?_⟩
    · have e1 : X.heap[A]? = some (BRf s b lv) := HX.out.1
      unfold Rf BRf
      simp [World.setCell, Array.getElem?_modify, e1, bz]
    · exact (((HD.out _).2.trans (Ao.set 3 _)).trans (Ao.set 2 _)).trans (Ao.set 6 _)
  · have HF : Hid (folS f s (Me.unpM x).v = s) := by show _ = _; unfold folS; rw [if_pos (by omega)]
    obtain ⟨c0, c1, c2, c3, c4, c5, c6, c7, c8⟩ := H.out.cells
    go_enter Tryz.func13, Tryz.ntmps13
    go_wp2_with fail
    refine (rUnpack_any x _).mono ?_
    rintro e w1 ⟨⟨u, z, rfl, hm⟩, hb1⟩
    obtain ⟨p1, d1, rfl, -, -⟩ := hm.lives.open
    obtain ⟨p2, d2, rfl, -, -⟩ := hm.items.open
    clear hm
    generalize (Me.unpM x).lives.length = n1
    generalize (Me.unpM x).items.length = n2
    obtain ⟨X, hX⟩ : ∃ X, w1.alloc (BMr (Me.unpM x) (.slice p1 n1 d1) (.slice p2 n2 d2)) = X := ⟨_, rfl⟩
    have HX : Hid (Rf X A s b lv ∧ Below w.heap.size w X) := by
      have : Below w.heap.size w X := by rw [← hX]; exact bup hb1 (below_alloc _ _)
      exact ⟨H.out.up this, this⟩
    obtain ⟨q0, q1, q2, q3, q4, q5, q6, q7, q8, q9, q10, q11, q12, q13, q14⟩ := mr_of (heap_alloc_new w1 (BMr (Me.unpM x) (.slice p1 n1 d1) (.slice p2 n2 d2)))
    rw [hX] at q0 q1 q2 q3 q4 q5 q6 q7 q8 q9 q10 q11 q12 q13 q14
    clear hb1 c0 c1 c2 c3 c4 c5 c6 c7 c8
    obtain ⟨c0, c1, c2, c3, c4, c5, c6, c7, c8⟩ := HX.out.1.cells
    rw [h1]
    go_wp2_with fail
    have h3' : ((Me.unpM x).k != 2) = false := by simp [H3.out.1]
    have h4' : ((Me.unpM x).cl != s.id) = false := by simp [H3.out.2.1]
    go_quiet (fail)
    have ho := H3.out.2.2
    go_wp2
    go_ret
    rw [HF.out]
    exact ⟨rfl, HX.out.1, (Ao.of HX.out.2).trans ⟨rfl, rfl, rfl, Nat.le_refl _, fun _ _ _ => rfl⟩⟩
end Go.Proofs.YtkdhbjmpjbdobaaGreatDoor
