/-
  For any string and any int sextonlaw04.PostFlips returns true, whatever the memory: a bit that is turned twice is as it was. No condition.
-/
import Derived.Test.YtpfnlciacbfcgabFlip
import Derived.Test.YtpfnlciacbfcgabLaw
namespace Go.Proofs.Ytpfnlciacbfcgab
open Go.ChangeShapes Go.WideShapes Go.ChangeAt Go.RowKit
open Go.ChangeMaps (open_string)

namespace Po
theorem flip_flip (b : ByteArray) (t : Nat) : flipAt (flipAt b t) t = b := by
  unfold flipAt
  congr 1
  apply Array.ext
  · simp
  · intro i h1 h2
    simp only [Array.getElem_modify]
    split
    · rw [UInt8.xor_assoc, UInt8.xor_self, UInt8.xor_zero]
    · rfl
end Po

theorem flip_here {b F : ByteArray} {t q r : Nat} (hF : Po.flipAt b t = F) (hqr : t / 8 = q ∧ t % 8 = r) (hr : r < 8) (hq : q < b.size) (hqF : q < F.size) : bits .xor .u8 ((b[q]'hq).toNat : Int) ((2 : Int) ^ r % 256) = ((F[q]'hqF).toNat : Int) := by
  subst hF
  rw [xor_pow (b[q]'hq) hr]
  have hq' : q < b.data.size := hq
  have e : (Po.flipAt b t)[q]'hqF = (b.data[q]'hq') ^^^ UInt8.ofNat (2 ^ (t % 8)) := (Array.getElem_modify (xs := b.data) (j := t / 8) (f := fun y => y ^^^ UInt8.ofNat (2 ^ (t % 8))) (i := q) (by simpa using hq')).trans (if_pos hqr.1)
  rw [e, hqr.2]
  rfl
theorem flip_there {b F : ByteArray} {t q k : Nat} (hF : Po.flipAt b t = F) (hq : t / 8 = q) (hk : k < b.size) (hkF : k < F.size) (hne : ¬ k = q) : ((F[k]'hkF).toNat : Int) = ((b[k]'hk).toNat : Int) := by
  subst hF
  have hk' : k < b.data.size := hk
  have e : (Po.flipAt b t)[k]'hkF = b.data[k]'hk' := (Array.getElem_modify (xs := b.data) (j := t / 8) (f := fun y => y ^^^ UInt8.ofNat (2 ^ (t % 8))) (i := k) (by simpa using hk')).trans (if_neg (by omega))
  rw [e]
  rfl

set_option maxHeartbeats 1000000 in
set_option maxRecDepth 100000 in
theorem flips_long (b : ByteArray) (bit : Int) (w : World) (hb : 65535 < b.size) : Calls Try.prog 4 #[.string b, .int .i64 bit] w fun e w' => e = .returned (.bool true) ∧ Below w.heap.size w w' := by
  have HB : Hid (65535 < b.size) := hb
  have hbI : (65535 : Int) < (b.size : Int) := by omega
  clear hb
  go_enter Try.func4, Try.ntmps4
  go_wp2_with fail
  refine (new_ex _ (by decide) (by decide)).mono ?_
  rintro e w1 ⟨s, rfl, hs, hp, hg⟩
  have HP1 : Hid (PostAt w1 s 1 0 (.slice none 0 0) []) := hp
  have HB1 : Hid (Below w.heap.size w w1) := below_none hg (Nat.le_refl _)
  clear hs hp hg
  go_wp2_with fail
  refine (send_long 0 0 b _ HP1.out (by simp [isNode]) (by simp [isNode]) HB.out).mono ?_
  rintro e w2 ⟨rfl, rfl⟩
  go_wp2_with fail
  refine (twice_any _).mono ?_
  rintro e w3 ⟨rfl, hg⟩
  have HB3 : Hid (Below w.heap.size w w3) := HB1.out.trans (below_none hg HB1.out.size)
  clear hg
  go_wp2
  go_ret
  exact ⟨rfl, HB3.out⟩

set_option maxHeartbeats 1000000 in
set_option maxRecDepth 100000 in
theorem flips_neg (b : ByteArray) (bit : Int) (w : World) (hb : ¬ 65535 < b.size) (h0 : bit < 0) : Calls Try.prog 4 #[.string b, .int .i64 bit] w fun e w' => e = .returned (.bool true) ∧ Below w.heap.size w w' := by
  have HB : Hid (¬ 65535 < b.size ∧ ¬ Po.bitOf b bit) := ⟨hb, fun h => by have := h.1; omega⟩
  clear hb
  go_enter Try.func4, Try.ntmps4
  go_wp2_with fail
  refine (new_ex _ (by decide) (by decide)).mono ?_
  rintro e w1 ⟨s, rfl, hs, hp, hg⟩
  have HS : Hid (w.heap.size ≤ s) := hs
  have HP1 : Hid (PostAt w1 s 1 0 (.slice none 0 0) []) := hp
  have HB1 : Hid (Below w.heap.size w w1) := below_none hg (Nat.le_refl _)
  clear hs hp hg
  go_wp2_with fail
  refine (send_ok 0 0 b _ HP1.out (by decide) (by simp [isNode]) (by simp [isNode]) HB.out.1 (by decide)).mono ?_
  rintro e w2 ⟨v2, rfl, hp, ht, hm⟩
  have HP2 : Hid (PostAt w2 s 1 1 v2 [(1, 0, 0, b)]) := hp
  have HB2 : Hid (Below w.heap.size w w2) := HB1.out.trans (HP1.out.below ht HS.out)
  clear hp ht hm HB1 HP1
  go_wp2_with fail
  refine (flip_arg (x := (1, 0, 0, b)) 1 bit _ HP2.out rfl HB.out.2).mono ?_
  rintro e w3 ⟨rfl, hg⟩
  have HP3 : Hid (PostAt w3 s 1 1 v2 [(1, 0, 0, b)]) := HP2.out.still hg
  have HB3 : Hid (Below w.heap.size w w3) := HB2.out.trans (below_none hg HB2.out.size)
  clear hg HB2 HP2
  go_wp2_with fail
  refine (see_some (x := (1, 0, 0, b)) 1 _ HP3.out rfl).mono ?_
  rintro e w4 ⟨rfl, hg⟩
  have HB4 : Hid (Below w.heap.size w w4) := HB3.out.trans (below_none hg HB3.out.size)
  clear hg HB3 HP3
  unfold letter
  simp only
  go_wp2_with fail
  have ga := World.grownBy_alloc w4 (.cells #[.int .i64 1, .int .i64 0, .int .i64 0, .string b] 35) none
  refine (twice_any _).mono ?_
  rintro e w5 ⟨rfl, hg⟩
  have HB5 : Hid (Below w.heap.size w w5) := HB4.out.trans (below_none (grown_trans ga hg) HB4.out.size)
  clear hg ga HB4
  go_wp2
  go_ret
  exact ⟨rfl, HB5.out⟩

set_option maxHeartbeats 1000000 in
set_option maxRecDepth 100000 in
theorem flips_big (b : ByteArray) (t : Nat) (w : World) (hb : ¬ 65535 < b.size) (h1 : 8 * b.size ≤ t) (h2 : t ≤ 9223372036854775807) : Calls Try.prog 4 #[.string b, .int .i64 t] w fun e w' => e = .returned (.bool true) ∧ Below w.heap.size w w' := by
  have HB : Hid (¬ 65535 < b.size ∧ ¬ Po.bitOf b (t : Int)) := ⟨hb, fun h => by have := h.2; omega⟩
  obtain ⟨q, hqd⟩ : ∃ q, t / 8 = q := ⟨_, rfl⟩
  have hdiv : (t : Int).tdiv 8 = (q : Int) := by rw [Int.tdiv_eq_ediv_of_nonneg (by omega)]; omega
  have hdiv' : (t : Int) / 8 = (q : Int) := by omega
  have ht0 : ¬ ((t : Int) < 0) := by omega
  have hqb : (b.size : Int) ≤ (q : Int) := by omega
  have hqm : (q : Int) < 4611686018427387904 := by omega
  clear hqd hb h1 h2
  go_enter Try.func4, Try.ntmps4
  go_wp2_with fail
  refine (new_ex _ (by decide) (by decide)).mono ?_
  rintro e w1 ⟨s, rfl, hs, hp, hg⟩
  have HS : Hid (w.heap.size ≤ s) := hs
  have HP1 : Hid (PostAt w1 s 1 0 (.slice none 0 0) []) := hp
  have HB1 : Hid (Below w.heap.size w w1) := below_none hg (Nat.le_refl _)
  clear hs hp hg
  go_wp2_with fail
  refine (send_ok 0 0 b _ HP1.out (by decide) (by simp [isNode]) (by simp [isNode]) HB.out.1 (by decide)).mono ?_
  rintro e w2 ⟨v2, rfl, hp, ht, hm⟩
  have HP2 : Hid (PostAt w2 s 1 1 v2 [(1, 0, 0, b)]) := hp
  have HB2 : Hid (Below w.heap.size w w2) := HB1.out.trans (HP1.out.below ht HS.out)
  clear hp ht hm HB1 HP1
  go_wp2_with fail
  refine (flip_arg (x := (1, 0, 0, b)) 1 (t : Int) _ HP2.out rfl HB.out.2).mono ?_
  rintro e w3 ⟨rfl, hg⟩
  have HP3 : Hid (PostAt w3 s 1 1 v2 [(1, 0, 0, b)]) := HP2.out.still hg
  have HB3 : Hid (Below w.heap.size w w3) := HB2.out.trans (below_none hg HB2.out.size)
  clear hg HB2 HP2
  go_wp2_with fail
  refine (see_some (x := (1, 0, 0, b)) 1 _ HP3.out rfl).mono ?_
  rintro e w4 ⟨rfl, hg⟩
  have HB4 : Hid (Below w.heap.size w w4) := HB3.out.trans (below_none hg HB3.out.size)
  clear hg HB3 HP3
  unfold letter
  simp only
  go_wp2_with fail
  have ga := World.grownBy_alloc w4 (.cells #[.int .i64 1, .int .i64 0, .int .i64 0, .string b] 35) none
  refine (twice_any _).mono ?_
  rintro e w5 ⟨rfl, hg⟩
  have HB5 : Hid (Below w.heap.size w w5) := HB4.out.trans (below_none (grown_trans ga hg) HB4.out.size)
  clear hg ga HB4
  go_wp2
  go_ret
  exact ⟨rfl, HB5.out⟩

set_option maxHeartbeats 1000000 in
set_option maxRecDepth 100000 in
theorem flips_ok (b : ByteArray) (t : Nat) (w : World) (hb : ¬ 65535 < b.size) (hbit : t < 8 * b.size) : Calls Try.prog 4 #[.string b, .int .i64 t] w fun e w' => e = .returned (.bool true) ∧ Below w.heap.size w w' := by
  have HB : Hid (¬ 65535 < b.size ∧ t < 8 * b.size) := ⟨hb, hbit⟩
  have hsz : (b.size : Int) ≤ 65535 := by omega
  obtain ⟨q, hqd⟩ : ∃ q, t / 8 = q := ⟨_, rfl⟩
  obtain ⟨r, hrd⟩ : ∃ r, t % 8 = r := ⟨_, rfl⟩
  have HQR : Hid (t / 8 = q ∧ t % 8 = r) := ⟨hqd, hrd⟩
  have hr8 : r < 8 := by omega
  have hdiv : (t : Int).tdiv 8 = (q : Int) := by rw [Int.tdiv_eq_ediv_of_nonneg (by omega)]; omega
  have hmod : (t : Int).tmod 8 = (r : Int) := by rw [Int.tmod_eq_emod_of_nonneg (by omega)]; omega
  have hdiv' : (t : Int) / 8 = (q : Int) := by omega
  have hmod' : (t : Int) % 8 = (r : Int) := by omega
  have ht0 : ¬ ((t : Int) < 0) := by omega
  have hqb : ¬ ((b.size : Int) ≤ (q : Int)) := by omega
  have hfs : (Po.flipAt b t).size = b.size := Po.flip_size b t
  clear hqd hrd hb hbit
  go_enter Try.func4, Try.ntmps4
  go_wp2_with fail
  refine (new_ex _ (by decide) (by decide)).mono ?_
  rintro e w1 ⟨s, rfl, hs, hp, hg⟩
  have HS : Hid (w.heap.size ≤ s) := hs
  have HP1 : Hid (PostAt w1 s 1 0 (.slice none 0 0) []) := hp
  have HB1 : Hid (Below w.heap.size w w1) := below_none hg (Nat.le_refl _)
  clear hs hp hg
  go_wp2_with fail
  refine (send_ok 0 0 b _ HP1.out (by decide) (by simp [isNode]) (by simp [isNode]) HB.out.1 (by decide)).mono ?_
  rintro e w2 ⟨v2, rfl, hp, ht, hm⟩
  have HP2 : Hid (PostAt w2 s 1 1 v2 [(1, 0, 0, b)]) := hp
  have HB2 : Hid (Below w.heap.size w w2) := HB1.out.trans (HP1.out.below ht HS.out)
  clear hp ht hm HB1 HP1
  go_wp2_with fail
  refine (flip_ok (x := (1, 0, 0, b)) 1 t _ HP2.out rfl HB.out.2).mono ?_
  rintro e w3 ⟨rfl, hp, ht⟩
  have HP3 : Hid (PostAt w3 s 1 1 v2 [(1, 0, 0, Po.flipAt b t)]) := hp
  have HB3 : Hid (Below w.heap.size w w3) := HB2.out.trans (HP2.out.below ht HS.out)
  clear hp ht HB2 HP2
  go_wp2_with fail
  refine (see_some (x := (1, 0, 0, Po.flipAt b t)) 1 _ HP3.out rfl).mono ?_
  rintro e w4 ⟨rfl, hg⟩
  have HP4 : Hid (PostAt w4 s 1 1 v2 [(1, 0, 0, Po.flipAt b t)]) := HP3.out.still hg
  have HB4 : Hid (Below w.heap.size w w4) := HB3.out.trans (below_none hg HB3.out.size)
  clear hg HB3 HP3
  unfold letter
  simp only
  generalize hF : Po.flipAt b t = F at *
  have HF : Hid (Po.flipAt b t = F) := hF
  clear hF
  go_wp2
  go_loopw [13] (fun i wr => ∃ k : Nat, k ≤ b.size ∧ i = .int .i64 k ∧ wr = w4.alloc (.cells #[.int .i64 1, .int .i64 0, .int .i64 0, .string F] 35)) (fun i _ => b.size - (intOf i).toNat)
  case atStart => exact ⟨0, Nat.zero_le _, rfl, rfl⟩
  case round =>
    obtain ⟨k, hk, rfl, rfl⟩ := hrel
    by_cases hlt : k < b.size
    · have hkI : (k : Int) < (b.size : Int) := by omega
      have hkF : k < F.size := by omega
      by_cases hkq : k = q
      · have hqs : q < b.size := by omega
        have hqF : q < F.size := by omega
        have hz := flip_here HF.out HQR.out hr8 hqs hqF
        go_wp2
        go_roundw
        case rel => exact ⟨q + 1, by omega, by go_num, by first | rfl | trivial⟩
        case measure => simp [intOf]; omega
      · have hkq' : ¬ ((k : Int) = (q : Int)) := by omega
        have hz := flip_there HF.out HQR.out.1 hlt hkF hkq
        go_wp2
        go_roundw
        case rel => exact ⟨k + 1, by omega, by go_num, by first | rfl | trivial⟩
        case measure => simp [intOf]; omega
    · obtain rfl : k = b.size := by omega
      have ga := World.grownBy_alloc w4 (.cells #[.int .i64 1, .int .i64 0, .int .i64 0, .string F] 35) none
      have HP5 : Hid (PostAt (w4.alloc (.cells #[.int .i64 1, .int .i64 0, .int .i64 0, .string F] 35)) s 1 1 v2 [(1, 0, 0, F)]) := HP4.out.still ga
      have HB5 : Hid (Below w.heap.size w (w4.alloc (.cells #[.int .i64 1, .int .i64 0, .int .i64 0, .string F] 35))) := HB4.out.trans (below_none ga HB4.out.size)
      clear ga HB4 HP4
      go_wp2_with fail
      refine (flip_ok (x := (1, 0, 0, F)) 1 t _ HP5.out rfl (by have := HB.out.2; simp only; omega)).mono ?_
      rintro e w6 ⟨rfl, hp, ht⟩
      have HP6 : Hid (PostAt w6 s 1 1 v2 [(1, 0, 0, b)]) := by
        have e1 : Po.flipAt F t = b := by rw [← HF.out]; exact Po.flip_flip b t
        have h2 : PostAt w6 s 1 1 v2 [(1, 0, 0, Po.flipAt F t)] := hp
        rw [e1] at h2
        exact h2
      have HB6 : Hid (Below w.heap.size w w6) := HB5.out.trans (HP5.out.below ht HS.out)
      clear hp ht HB5 HP5
      go_wp2_with fail
      refine (take_some (x := (1, 0, 0, b)) 1 _ HP6.out rfl).mono ?_
      rintro e w7 ⟨v7, rfl, hp, ht, hm⟩
      have HB7 : Hid (Below w.heap.size w w7) := HB6.out.trans (HP6.out.below ht HS.out)
      clear hp ht hm HB6 HP6
      unfold letter
      simp only
      go_wp2_with fail
      have gb := World.grownBy_alloc w7 (.cells #[.int .i64 1, .int .i64 0, .int .i64 0, .string b] 35) none
      refine (twice_any _).mono ?_
      rintro e w8 ⟨rfl, hg⟩
      have HB8 : Hid (Below w.heap.size w w8) := HB7.out.trans (below_none (grown_trans gb hg) HB7.out.size)
      clear hg gb HB7
      go_wp2
      go_ret
      exact ⟨rfl, HB8.out⟩

theorem flips_any (b : ByteArray) (bit : Int) (w : World) (hr : bit ≤ 9223372036854775807) : Calls Try.prog 4 #[.string b, .int .i64 bit] w fun e w' => e = .returned (.bool true) ∧ Below w.heap.size w w' := by
  by_cases hb : 65535 < b.size
  · exact flips_long b bit w hb
  · by_cases h0 : bit < 0
    · exact flips_neg b bit w hb h0
    · obtain ⟨t, rfl⟩ : ∃ t : Nat, bit = (t : Int) := ⟨bit.toNat, by omega⟩
      by_cases h1 : 8 * b.size ≤ t
      · exact flips_big b t w hb h1 (by omega)
      · exact flips_ok b t w hb (by omega)

set_option maxRecDepth 100000 in
theorem postFlips_lifted (os : Os) (started : os.Started) (H : Type) (enc : TypeId × Value → H) :
    ReturnsInHanded {} Try.checked os 4 .any (Rows.postFlipsSpec.pre6 enc Try.prog Try.f4 Rows.postFlipsRow.domain false) (Rows.postFlipsSpec.post enc Try.prog Try.f4 false true false false) := by
  refine returnsInHanded_of_change (C := Try.checked) own started (by kernel_rfl) Try.func4
    (ChangeSpec.witness6 (enc := enc) (C := Try.checked) false ⟨#[], #[.string ⟨#[]⟩, .int .i64 0], []⟩ 8 (by kernel_rfl) (by kernel_rfl) (by kernel_rfl) (by kernel_rfl)) ?_
  intro W base args ds gs before hval0 hW hcnd _
  have hval : ∀ (j : Nat) t v, Try.f4.params[j]? = some t → args[j]? = some v → Value.okWide Try.prog W .any base t v := hval0
  have hW' := hW
  obtain ⟨p, q, hA0, hV, rfl, hfz, hnd⟩ := hW
  have hA : DataW.TrodAll enc Try.prog W 0 (fun _ => true) true Try.f4.params.toList args.toList ds p := hA0
  rw [Try.params4] at hA hval
  obtain ⟨v0, v1, d0, d1, p0, p1, rfl, rfl, rfl, h0, h1⟩ := trodAll_two hA
  obtain ⟨rfl, rfl⟩ := trodVars_none hV
  obtain ⟨b, rfl, rfl, rfl, w1⟩ := open_string Try.underlying9 (hval 0 9 v0 rfl rfl) h0
  obtain ⟨a, rfl, rfl, rfl, w0⟩ := open_int Try.underlying3 (hval 1 3 v1 rfl rfl) h1
  have wa : a ≤ 9223372036854775807 := by
    simp [Lit.wf, IntKind.min, IntKind.max, IntKind.signed, IntKind.bits] at w0
    omega
  refine (flips_any b a W wa).mono fun e W' ⟨he, hg⟩ => ⟨_, he, ?_⟩
  exact Law.post laidOut (by kernel_rfl) rfl Try.underlying4 hW' rfl rfl hg

theorem postFlips_holds : Rows.PostFlipsSaid :=
  OpenClaim.holds_of_wide 4 Try.f4 rfl rfl rfl rfl rfl rfl rfl ⟨rfl, rfl, rfl, rfl, rfl⟩ rfl rfl rfl rfl rfl (by kernel_rfl) Try.func4 (by kernel_rfl)
    (of_decide_eq_true (by kernel_rfl)) (by unfold Func.isWrapper; first | (rw [if_pos (by decide +kernel)]; kernel_rfl) | (rw [if_neg (by decide +kernel)]; exact ⟨rfl, rfl⟩))
    (fun os started H enc _ => postFlips_lifted os started H enc)
#print axioms postFlips_holds
end Go.Proofs.Ytpfnlciacbfcgab
