/-
  For any slice of fields and any tag sextonlaw01.TlvFinds returns true, whatever the memory: tlv.First and tlv.All find what the statement finds. No condition.
-/
import Derived.Test.YtdgainpbaphniaaRows
import Derived.Test.YtdgainpbaphniaaLaw
import Derived.Test.YtdgainpbaphniaaFind
import Derived.Test.YtdgainpbaphniaaTexts
import Derived.SizedLaws
namespace Go.Proofs.Ytdgainpbaphniaa
open Go.ChangeShapes Go.WideShapes Go.ChangeAt Go.RowKit Go.Deep

theorem fields_one (w : World) (t : Int) (s : ByteArray) (T : TypeId) : FieldsAt (w.alloc (.cells #[.int .i64 t, .string s] T)).heap.size (w.alloc (.cells #[.int .i64 t, .string s] T)) (.slice (some ⟨w.heap.size, 0, none⟩) 1 1) [(t, s)] := by
  refine .inr ⟨w.heap.size, 0, 1, rfl, by simp, by simp, by simp, by decide, fun i hi => ?_⟩
  obtain rfl : i = 0 := by simpa using hi
  simp

theorem Pl.all_nil {l : List (Int × ByteArray)} {tag : Int} (h : Pl.allOf l tag = []) : Pl.firstOf l tag = ⟨#[]⟩ ∧ Pl.hasTag l tag = false := by
  have hf : l.find? (fun x => x.1 == tag) = none := by
    rw [List.find?_eq_none]
    simpa [Pl.allOf, List.filter_eq_nil_iff] using h
  exact ⟨by simp [Pl.firstOf, hf], by simp [Pl.hasTag, hf]⟩
theorem Pl.all_cons {l : List (Int × ByteArray)} {tag : Int} (h : 0 < (Pl.allOf l tag).length) : Pl.firstOf l tag = (Pl.allOf l tag).getD 0 .empty ∧ Pl.hasTag l tag = true := by
  have hh : (l.filter (fun x => x.1 == tag)).head? = l.find? (fun x => x.1 == tag) := List.head?_filter
  unfold Pl.allOf at h ⊢
  unfold Pl.firstOf Pl.hasTag
  rw [← hh]
  clear hh
  generalize l.filter (fun x => x.1 == tag) = m at h ⊢
  cases m with
  | nil => simp at h
  | cons x r => exact ⟨rfl, rfl⟩
theorem lit_find : Pl.firstOf [(3, ⟨#[121]⟩)] 3 = ⟨#[121]⟩ ∧ Pl.hasTag [(3, ⟨#[121]⟩)] 3 = true := by decide

set_option maxHeartbeats 1000000 in
theorem finds_any (v : Value) (l : List (Int × ByteArray)) (tag : Int) (w : World) (hv : FieldsAt w.heap.size w v l) (hr : l.length * 24 ≤ 140737488351232) :
    Calls Try.prog 7 #[v, .int .i64 tag] w fun e w' => e = .returned (.bool true) ∧ Below w.heap.size w w' := by
  have HV : Hid (FieldsAt w.heap.size w v l) := hv
  rcases hv with ⟨ao, cap, rfl, rfl⟩ | ⟨b, off, cap, rfl, hB, hp, hlc, hm, hx⟩
  · have HL : Hid (Pl.firstOf [(3, ⟨#[121]⟩)] 3 = ⟨#[121]⟩ ∧ Pl.hasTag [(3, ⟨#[121]⟩)] 3 = true) := lit_find
    have HQ : Hid (Pl.firstOf [] tag = ⟨#[]⟩ ∧ Pl.hasTag [] tag = false) := ⟨rfl, rfl⟩
    have HR : Hid (([] : List (Int × ByteArray)).length * 24 ≤ 140737488351232) := hr
    go_enter Try.func7, Try.ntmps7
    go_wp2
    refine wp_loop_rounds 1 ?_
    rw [rounds_succ]
    go_wp2_with fail
    have hb0 : Below w.heap.size w w := Below.refl _ _
    refine (first_any _ _ tag _ (HV.out)).mono ?_
    rintro e w1 ⟨rfl, hb1⟩
    rw [HQ.out.1, HQ.out.2]
    go_wp2_with fail
    refine (first_any _ [(3, ⟨#[121]⟩)] 3 _ (fields_one w1 3 ⟨#[121]⟩ 31)).mono ?_
    rintro e w2 ⟨rfl, hb2⟩
    rw [HL.out.1, HL.out.2]
    have hb02 : Below w.heap.size w w2 := (hb0.trans ((hb1.alloc hb1.size _).mono hb0.size)).trans (hb2.mono (by have := hb0.size; have := hb1.size; simp; omega))
    have hb2' : Below w.heap.size w w2 := (hb1.alloc hb1.size _).trans (hb2.mono (by have := hb1.size; simp; omega))
    clear hb1 hb2
    go_wp2_with fail
    refine (all_any _ _ tag _ ((HV.out.below hb02 (Nat.le_refl _)).mono hb02.size) HR.out).mono ?_
    rintro e w3 ⟨r, rfl, hown3, hb3⟩
    have hb03 : Below w.heap.size w w3 := hb02.trans (hb3.mono hb02.size)
    have hb3' : Below w.heap.size w w3 := hb2'.trans (hb3.mono hb2'.size)
    have hS3 : StrsAt w3.heap.size w3 r _ := StrsAt.of_own hown3
    clear hown3 hb3
    go_wp2_with fail
    refine (texts_same _ _ _ _ hS3 (.inl ⟨none, 0, rfl, rfl⟩)).mono ?_
    rintro e w4 ⟨rfl, hb4⟩
    have hb04 : Below w.heap.size w w4 := hb03.trans (hb4.mono hb03.size)
    go_wp2
    go_ret
    exact ⟨rfl, hb04⟩
  · unfold maxLen at hm
    have HL : Hid (Pl.firstOf [(3, ⟨#[121]⟩)] 3 = ⟨#[121]⟩ ∧ Pl.hasTag [(3, ⟨#[121]⟩)] 3 = true) := lit_find
    obtain ⟨i0, hi, hz0, hz1, hz2⟩ := info_parts info9
    obtain ⟨n, hn⟩ : ∃ n, l.length = n := ⟨_, rfl⟩
    have HR : Hid (l.length * 24 ≤ 140737488351232) := hr
    rw [hn] at hp hlc hx hr HV ⊢
    have HN : Hid (l.length = n) := hn
    have HX : Hid (∀ i, i < n → w.cell? ⟨b, off + i * 2, none⟩ = some (.int .i64 (l.getD i (0, .empty)).1) ∧ w.cell? ⟨b, off + i * 2 + 1, none⟩ = some (.string (l.getD i (0, .empty)).2)) := hx
    clear hn hx
    go_enter Try.func7, Try.ntmps7
    go_wp2
    go_loopw [5, 14] (fun r i wr => ∃ k : Nat, k ≤ n ∧ i = .int .i64 k ∧ wr.ownsRow w.heap.size 9 1 r (Pl.allOf (l.take k) tag).length ((Pl.allOf (l.take k) tag).map Value.string) ∧ Below w.heap.size w wr) (fun _ i _ => n - (intOf i).toNat)
    case atStart => exact ⟨0, Nat.zero_le _, rfl, World.ownsRow_nil _ _ _ _, Below.refl _ _⟩
    case round =>
      obtain ⟨k, hk, rfl, hown, hbl⟩ := hrel
      by_cases hlt : k < n
      · obtain ⟨c0, c1⟩ := HX.out k hlt
        rw [← hbl.cell (p := ⟨b, off + k * 2, none⟩) hB] at c0
        rw [← hbl.cell (p := ⟨b, off + k * 2 + 1, none⟩) hB] at c1
        generalize hf : l.getD k (0, .empty) = f at *
        have HF : Hid (l.getD k (0, .empty) = f) := hf
        clear hf
        obtain ⟨t, s⟩ := f
        by_cases ht : t = tag
        · subst ht
          have hle := Pl.allOf_le l t k
          have HA : Hid (Pl.allOf (l.take (k + 1)) t = Pl.allOf (l.take k) t ++ [s]) := Pl.allOf_hit (by rw [HN.out]; exact hlt) HF.out (by simp)
          generalize Pl.allOf (l.take k) t = A at *
          have hsz := hbl.size
          go_wp2_with (at_builtin; refine wpList_append_own _ rfl _ _ 47 rfl w.heap.size 9 i0 (.string ⟨#[]⟩) 1 16 Try.underlying47 hi hz0 hz1 hz2 rfl (by decide) _ _ _ rfl ((hown.alloc _).alloc _) ⟨wr.heap.size + 1, 0, none⟩ 1 1 [.string s] rfl rfl ?c1 ?c2 ?c3 ?c4 ?c5 ?_)
          case c2 => rfl
          case c3 => unfold maxLen; omega
          case c4 => omega
          case c5 => omega
          intro v' w1 hown' hgrow _
          have hb' : Below w.heap.size w w1 := ((hbl.alloc hsz _).alloc (by simp; omega) _).grown hgrow (by simp; omega) (fun g hg => (hown.lt g hg).1)
          have R0 : w1.ownsRow w.heap.size 9 1 v' (Pl.allOf (l.take (k + 1)) t).length ((Pl.allOf (l.take (k + 1)) t).map Value.string) := by
            rw [HA.out]
            simpa using hown'
          have R : Hid (w1.ownsRow w.heap.size 9 1 v' (Pl.allOf (l.take (k + 1)) t).length ((Pl.allOf (l.take (k + 1)) t).map Value.string)) := R0
          clear hown' hgrow hown R0
          go_wp2
          go_roundw
          case rel => exact ⟨k + 1, by omega, by go_num, R.out, hb'⟩
          case measure => simp [intOf]; omega
        · have ht' : (t == tag) = false := by simp [ht]
          have HA : Hid (Pl.allOf (l.take (k + 1)) tag = Pl.allOf (l.take k) tag) := Pl.allOf_miss (by rw [HN.out]; exact hlt) HF.out ht'
          go_wp2
          go_roundw
          case rel => exact ⟨k + 1, by omega, by go_num, by rw [HA.out]; exact hown.alloc _, hbl.alloc hbl.size _⟩
          case measure => simp [intOf]; omega
      · obtain rfl : k = n := by omega
        rw [List.take_of_length_le (by rw [HN.out]; exact Nat.le_refl _)] at hown
        have hS := StrsAt.of_own hown
        clear hown
        rcases hS with ⟨ao', cap', rfl, hnil⟩ | ⟨b', off', cap', rfl, hB', hp', hlc', hm', hx'⟩
        · have HQ : Hid (Pl.firstOf l tag = ⟨#[]⟩ ∧ Pl.hasTag l tag = false) := Pl.all_nil hnil
          have HS : Hid (Pl.allOf l tag = []) := hnil
          clear hnil
          go_wp2_with fail
          refine (first_any _ _ tag _ ((HV.out.below hbl (Nat.le_refl _)).mono hbl.size)).mono ?_
          rintro e w1 ⟨rfl, hb1⟩
          rw [HQ.out.1, HQ.out.2]
          go_wp2_with fail
          refine (first_any _ [(3, ⟨#[121]⟩)] 3 _ (fields_one w1 3 ⟨#[121]⟩ 31)).mono ?_
          rintro e w2 ⟨rfl, hb2⟩
          rw [HL.out.1, HL.out.2]
          have hb02 : Below w.heap.size w w2 := (hbl.trans ((hb1.alloc hb1.size _).mono hbl.size)).trans (hb2.mono (by have := hbl.size; have := hb1.size; simp; omega))
          have hb2' : Below wr.heap.size wr w2 := (hb1.alloc hb1.size _).trans (hb2.mono (by have := hb1.size; simp; omega))
          clear hb1 hb2
          go_wp2_with fail
          refine (all_any _ _ tag _ ((HV.out.below hb02 (Nat.le_refl _)).mono hb02.size) HR.out).mono ?_
          rintro e w3 ⟨r, rfl, hown3, hb3⟩
          have hb03 : Below w.heap.size w w3 := hb02.trans (hb3.mono hb02.size)
          have hb3' : Below wr.heap.size wr w3 := hb2'.trans (hb3.mono hb2'.size)
          have hS3 : StrsAt w3.heap.size w3 r _ := StrsAt.of_own hown3
          clear hown3 hb3
          go_wp2_with fail
          refine (texts_same _ _ _ _ hS3 (.inl ⟨ao', cap', rfl, HS.out⟩)).mono ?_
          rintro e w4 ⟨rfl, hb4⟩
          have hb04 : Below w.heap.size w w4 := hb03.trans (hb4.mono hb03.size)
          go_wp2
          go_ret
          exact ⟨rfl, hb04⟩
        · obtain ⟨s0, hs0⟩ : ∃ s0, (Pl.allOf l tag).getD 0 .empty = s0 := ⟨_, rfl⟩
          have HQ : Hid (Pl.firstOf l tag = s0 ∧ Pl.hasTag l tag = true) := by rw [← hs0]; exact Pl.all_cons hp'
          have HS : Hid (StrsAt wr.heap.size wr (.slice (some ⟨b', off', none⟩) (Pl.allOf l tag).length cap') (Pl.allOf l tag)) := .inr ⟨b', off', cap', rfl, hB', hp', hlc', hm', hx'⟩
          unfold maxLen at hm'
          have hc0 : Hid (wr.cell? ⟨b', off', none⟩ = some (.string s0)) := by rw [← hs0]; exact hx' 0 hp'
          clear hx' hs0
          obtain ⟨n0, hn0⟩ : ∃ n0, (Pl.allOf l tag).length = n0 := ⟨_, rfl⟩
          rw [hn0] at hp' hlc' HS ⊢
          clear hn0
          go_wp2_with fail
          refine (first_any _ _ tag _ ((HV.out.below hbl (Nat.le_refl _)).mono hbl.size)).mono ?_
          rintro e w1 ⟨rfl, hb1⟩
          rw [HQ.out.1, HQ.out.2]
          go_wp2_with fail
          refine (first_any _ [(3, ⟨#[121]⟩)] 3 _ (fields_one w1 3 ⟨#[121]⟩ 31)).mono ?_
          rintro e w2 ⟨rfl, hb2⟩
          rw [HL.out.1, HL.out.2]
          have hb02 : Below w.heap.size w w2 := (hbl.trans ((hb1.alloc hb1.size _).mono hbl.size)).trans (hb2.mono (by have := hbl.size; have := hb1.size; simp; omega))
          have hb2' : Below wr.heap.size wr w2 := (hb1.alloc hb1.size _).trans (hb2.mono (by have := hb1.size; simp; omega))
          clear hb1 hb2
          go_wp2_with fail
          refine (all_any _ _ tag _ ((HV.out.below hb02 (Nat.le_refl _)).mono hb02.size) HR.out).mono ?_
          rintro e w3 ⟨r, rfl, hown3, hb3⟩
          have hb03 : Below w.heap.size w w3 := hb02.trans (hb3.mono hb02.size)
          have hb3' : Below wr.heap.size wr w3 := hb2'.trans (hb3.mono hb2'.size)
          have hS3 : StrsAt w3.heap.size w3 r _ := StrsAt.of_own hown3
          clear hown3 hb3
          go_wp2_with fail
          refine (texts_same _ _ _ _ hS3 ((HS.out.below hb3' (Nat.le_refl _)).mono' hb3'.size)).mono ?_
          rintro e w4 ⟨rfl, hb4⟩
          have hb04 : Below w.heap.size w w4 := hb03.trans (hb4.mono hb03.size)
          have hc4 := hc0.out
          rw [← (hb3'.trans (hb4.mono hb3'.size)).cell (p := ⟨b', off', none⟩) hB'] at hc4
          have hp4 : (0 : Int) < (n0 : Int) := by omega
          go_wp2
          go_ret
          exact ⟨rfl, hb04⟩

theorem cells31 : Try.prog.cellsOf 31 = 2 := by kernel_rfl
theorem bytes31 : Try.prog.bytesOf 31 = 24 := by kernel_rfl
theorem cells3 : Try.prog.cellsOf 3 = 1 := by kernel_rfl
theorem cells9 : Try.prog.cellsOf 9 = 1 := by kernel_rfl

set_option maxRecDepth 100000 in
theorem tlvFinds_lifted (os : Os) (started : os.Started) (H : Type) (enc : TypeId × Value → H) :
    ReturnsInHanded {} Try.checked os 7 .any (Rows.tlvFindsSpec.pre6 enc Try.prog Try.f7 Rows.tlvFindsRow.domain false) (Rows.tlvFindsSpec.post enc Try.prog Try.f7 false true false false) := by
  refine returnsInHanded_of_change_sized (C := Try.checked) own started (by kernel_rfl) Try.func7
    (ChangeSpec.witness6 (enc := enc) (C := Try.checked) false ⟨#[], #[.slice none 0 0, .int .i64 0], []⟩ 8 (by kernel_rfl) (by kernel_rfl) (by kernel_rfl) (by kernel_rfl)) ?_
  intro W base args ds gs before hval0 hW hcnd hsz0 _
  have hval : ∀ (j : Nat) t v, Try.f7.params[j]? = some t → args[j]? = some v → Value.okWide Try.prog W .any base t v := hval0
  have hsz : (DataW.weightsEach Try.prog (Try.f7.params.toList ++ Rows.tlvFindsSpec.plain.varTypes Try.prog) (ds ++ gs)).all (· ≤ reachBytes) = true := hsz0
  have hW' := hW
  obtain ⟨p, q, hA0, hV, rfl, hfz, hnd⟩ := hW
  have hA : DataW.TrodAll enc Try.prog W 0 (fun _ => true) true Try.f7.params.toList args.toList ds p := hA0
  rw [Try.params7] at hA hval hsz
  obtain ⟨v0, v1, d0, d1, p0, p1, rfl, rfl, rfl, h0, h1⟩ := trodAll_two hA
  obtain ⟨rfl, rfl⟩ := trodVars_none hV
  obtain ⟨b, rfl, rfl, rfl, w1⟩ := open_int Try.underlying3 (hval 1 3 v1 rfl rfl) h1
  have hlt : ∀ x ∈ p0, x.block < W.heap.size := fun x hx => hW'.lt x (by simp [hx])
  obtain ⟨l, sp, hl, hok, hd⟩ := open_fields Try.underlying22 Try.underlying31 cells31 rfl rfl cells3 cells9 Try.underlying3 Try.underlying9 (okWide_slice Try.underlying22 (hval 0 22 v0 rfl rfl)) hlt h0
  have hlen : l.length * 24 ≤ 140737488351232 := by
    rcases hd with ⟨_, rfl⟩ | hd
    · simp
    · subst hd
      have := sized_slice hsz (j := 0) (t := 22) (e := 31) rfl rfl Try.underlying22
      rw [bytes31] at this
      simp only [List.length_map, reachBytes] at this
      omega
  refine (finds_any v0 l b W hl hlen).mono fun e W' ⟨he, hg⟩ => ⟨_, he, ?_⟩
  exact Law.post laidOut (by kernel_rfl) rfl Try.underlying4 hW' rfl rfl hg

theorem tlvFinds_holds : Rows.TlvFindsSaid :=
  OpenClaim.holds_of_wide 7 Try.f7 rfl rfl rfl rfl rfl rfl rfl ⟨rfl, rfl, rfl, rfl, rfl⟩ rfl rfl rfl rfl rfl (by kernel_rfl) Try.func7 (by kernel_rfl)
    (of_decide_eq_true (by kernel_rfl)) (by unfold Func.isWrapper; first | (rw [if_pos (by decide +kernel)]; kernel_rfl) | (rw [if_neg (by decide +kernel)]; exact ⟨rfl, rfl⟩))
    (fun os started H enc _ => tlvFinds_lifted os started H enc)
#print axioms tlvFinds_holds
end Go.Proofs.Ytdgainpbaphniaa
