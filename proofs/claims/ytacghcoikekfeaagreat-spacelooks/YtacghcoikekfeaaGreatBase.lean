/-
  attr.Check, blob.Check, blob.End, blob.Bytes: what they answer at any attributes and any runs.
-/
import Derived.Test.YtacghcoikekfeaaGreatRows
import Derived.Test.YtacghcoikekfeaaGreatPlain
import Derived.Test.YtacghcoikekfeaaGreatRow
import Derived.WalkKit
import Derived.WalkSpells
import Derived.WalkLawsBesides
import Derived.ProofKit
import Derived.BigQuiet
import Derived.Deep.QuietTactic
import Derived.Deep.RegionHeld3
import Derived.Deep.SlicePairs
namespace Go.Proofs.YtacghcoikekfeaaGreat
open Go.ChangeShapes Go.WideShapes Go.ChangeAt Go.RowKit Go.Deep
set_option maxRecDepth 100000

/-- The value v stands for the list l of fields, whose cells lie below block number B. -/
def FieldsAt (B : Nat) (w : World) (v : Value) (l : List (Int × ByteArray)) : Prop :=
  (∃ ao cap, v = .slice ao 0 cap ∧ l = []) ∨
  (∃ b off cap, v = .slice (some ⟨b, off, none⟩) l.length cap ∧ b < B ∧ 0 < l.length ∧ l.length ≤ cap ∧ cap ≤ maxLen ∧
    ∀ i, i < l.length → w.cell? ⟨b, off + i * 2, none⟩ = some (.int .i64 (l.getD i (0, .empty)).1) ∧ w.cell? ⟨b, off + i * 2 + 1, none⟩ = some (.string (l.getD i (0, .empty)).2))

theorem FieldsAt.below {B C : Nat} {w w' : World} {v : Value} {l : List (Int × ByteArray)} (h : FieldsAt B w v l) (hb : Below C w w') (hC : B ≤ C) : FieldsAt B w' v l := by
  rcases h with h | ⟨b, off, cap, hv, hB, hp, hc, hm, hx⟩
  · exact .inl h
  · refine .inr ⟨b, off, cap, hv, hB, hp, hc, hm, fun i hi => ?_⟩
    rw [hb.cell (p := ⟨b, off + i * 2, none⟩) (by show b < C; omega), hb.cell (p := ⟨b, off + i * 2 + 1, none⟩) (by show b < C; omega)]
    exact hx i hi

theorem FieldsAt.mono {B C : Nat} {w : World} {v : Value} {l : List (Int × ByteArray)} (h : FieldsAt B w v l) (hC : B ≤ C) : FieldsAt C w v l := by
  rcases h with h | ⟨b, off, cap, hv, hB, hp, hc, hm, hx⟩
  · exact .inl h
  · exact .inr ⟨b, off, cap, hv, by omega, hp, hc, hm, hx⟩

theorem FieldsAt.open {B : Nat} {w : World} {v : Value} {l : List (Int × ByteArray)} (h : FieldsAt B w v l) : ∃ ao cap, v = .slice ao l.length cap ∧ l.length ≤ maxLen ∧ ∀ j, j < l.length → ∃ b off, ao = some ⟨b, off, none⟩ ∧ b < B ∧ w.cell? ⟨b, off + j * 2, none⟩ = some (.int .i64 (l.getD j (0, .empty)).1) ∧ w.cell? ⟨b, off + j * 2 + 1, none⟩ = some (.string (l.getD j (0, .empty)).2) := by
  rcases h with ⟨ao, cap, rfl, rfl⟩ | ⟨b, off, cap, rfl, hlt, _, hc, hm, hx⟩
  · exact ⟨ao, cap, rfl, by simp, fun j hj => by simp at hj⟩
  · exact ⟨_, cap, rfl, by omega, fun j hj => ⟨b, off, rfl, hlt, hx j hj⟩⟩
def ER : Enc (Int × ByteArray) := ⟨2, fun x => [.int .i64 x.1, .string x.2], fun _ => rfl, fun x u hu => by
  simp at hu
  rcases hu with rfl | rfl <;> rfl⟩
theorem At.fields {S : Nat → Prop} {w : World} {v : Value} {l : List (Int × ByteArray)} (h : At ER S w v l) : FieldsAt w.heap.size w v l := by
  rcases h with h | ⟨b, off, cap, rfl, _, hB, hp, hc, hm, hx⟩
  · exact .inl h
  · refine .inr ⟨b, off, cap, rfl, hB, hp, hc, hm, fun i hi => ?_⟩
    have hi' : l[i]? = some (l.getD i (0, .empty)) := by simp [List.getD, hi]
    have h0 := hx _ _ (ER.flat_at l i _ hi' 0 _ rfl)
    have h1 := hx _ _ (ER.flat_at l i _ hi' 1 _ rfl)
    exact ⟨h0, by rw [Nat.add_assoc]; exact h1⟩
theorem FieldsAt.up {w w' : World} {v : Value} {l : List Bl.R} (h : FieldsAt w.heap.size w v l) (hb : Below w.heap.size w w') : FieldsAt w'.heap.size w' v l := (h.below hb (Nat.le_refl _)).mono hb.size
theorem laidOut : laidOutB Tryz.prog = true := by kernel_rfl
theorem own : ownKnob Tryz.prog.godebug = none := by kernel_rfl
theorem wrap_small (n : Nat) (h : n < 9223372036854775808) : IntKind.i64.wrap (n : Int) = (n : Int) := by
  have e : (n : Int) % 2 ^ 64 = n := Int.emod_eq_of_lt (by omega) (by omega)
  simp only [IntKind.wrap, IntKind.bits, IntKind.signed, e]
  rw [if_neg]
  simp
  omega
theorem wrap_int (x : Int) (h0 : 0 ≤ x) (h : x < 9223372036854775808) : IntKind.i64.wrap x = x := by
  obtain ⟨n, rfl⟩ := Int.eq_ofNat_of_zero_le h0
  exact wrap_small n (by omega)
abbrev BR (a : Int) (s : ByteArray) : Obj := .cells #[.int .i64 a, .string s] 132
theorem bend_any (a : Int) (s : ByteArray) (w : World) (h0 : -9223372036854775808 ≤ a) (h1 : a + s.size ≤ 9223372036854775807) :
    Calls Tryz.prog 126 #[.agg #[.int .i64 a, .string s]] w fun e w' => e = .returned (.int .i64 (a + s.size)) ∧ w' = w.alloc (BR a s) := by
  go_enter Tryz.func126, Tryz.ntmps126
  go_wp2
  go_ret
  exact ⟨rfl, rfl⟩

abbrev BA (k l s t : Int) : Obj := .cells #[.int .i64 k, .int .i64 l, .int .i64 s, .int .i64 t] 61
abbrev VA (k l s t : Int) : Value := .agg #[.int .i64 k, .int .i64 l, .int .i64 s, .int .i64 t]

theorem awithin_any (lo x hi : Int) (w : World) : Calls Tryz.prog 125 #[.int .i64 lo, .int .i64 x, .int .i64 hi] w fun e w' => e = .returned (.bool (decide (lo ≤ x ∧ x ≤ hi))) ∧ w' = w := by
  by_cases h1 : lo ≤ x
  · by_cases h2 : x ≤ hi
    · rw [decide_eq_true (show lo ≤ x ∧ x ≤ hi from ⟨h1, h2⟩)]
      go_enter Tryz.func125, Tryz.ntmps125
      go_wp2
      go_ret
      exact ⟨rfl, rfl⟩
    · rw [decide_eq_false (show ¬ (lo ≤ x ∧ x ≤ hi) from fun h => h2 h.2)]
      go_enter Tryz.func125, Tryz.ntmps125
      go_wp2
      go_ret
      exact ⟨rfl, rfl⟩
  · rw [decide_eq_false (show ¬ (lo ≤ x ∧ x ≤ hi) from fun h => h1 h.1)]
    go_enter Tryz.func125, Tryz.ntmps125
    go_wp2
    go_ret
    exact ⟨rfl, rfl⟩
theorem awithin_yes (lo x hi : Int) (w : World) (h : lo ≤ x ∧ x ≤ hi) : Calls Tryz.prog 125 #[.int .i64 lo, .int .i64 x, .int .i64 hi] w fun e w' => e = .returned (.bool true) ∧ w' = w := by
  have := awithin_any lo x hi w
  rwa [decide_eq_true h] at this
theorem awithin_no (lo x hi : Int) (w : World) (h : ¬ (lo ≤ x ∧ x ≤ hi)) : Calls Tryz.prog 125 #[.int .i64 lo, .int .i64 x, .int .i64 hi] w fun e w' => e = .returned (.bool false) ∧ w' = w := by
  have := awithin_any lo x hi w
  rwa [decide_eq_false h] at this

set_option maxHeartbeats 1000000 in
theorem acheck_yes (k l s t : Int) (w : World) (h : At.right k l s t = true) : Calls Tryz.prog 97 #[VA k l s t] w fun e w' => e = .returned (.int .i64 0) ∧ w' = w.alloc (BA k l s t) := by
  rcases At.right_iff.1 h with ⟨rfl, rfl, rfl, rfl⟩ | ⟨hs, ht, ⟨rfl, hl⟩ | ⟨rfl, rfl⟩⟩
  · clear h
    go_enter Tryz.func97, Tryz.ntmps97
    go_wp2
    go_ret
    exact ⟨rfl, rfl⟩
  · have HS : Hid ((0 ≤ l ∧ l ≤ 64) ∧ (0 ≤ s ∧ s ≤ 1048576) ∧ (0 ≤ t ∧ t ≤ 1099511627776)) := ⟨hl, hs, ht⟩
    clear h hl hs ht
    go_enter Tryz.func97, Tryz.ntmps97
    go_wp2_with fail
    refine (awithin_yes _ _ _ _ HS.out.1).mono ?_
    rintro e w' ⟨rfl, rfl⟩
    go_wp2_with fail
    refine (awithin_yes _ _ _ _ HS.out.2.1).mono ?_
    rintro e w' ⟨rfl, rfl⟩
    go_wp2_with fail
    refine (awithin_yes _ _ _ _ HS.out.2.2).mono ?_
    rintro e w' ⟨rfl, rfl⟩
    go_wp2
    go_ret
    exact ⟨rfl, rfl⟩
  · have HS : Hid ((0 ≤ s ∧ s ≤ 1048576) ∧ (0 ≤ t ∧ t ≤ 1099511627776)) := ⟨hs, ht⟩
    clear h hs ht
    go_enter Tryz.func97, Tryz.ntmps97
    go_wp2_with fail
    refine (awithin_yes _ _ _ _ (by decide)).mono ?_
    rintro e w' ⟨rfl, rfl⟩
    go_wp2_with fail
    refine (awithin_yes _ _ _ _ HS.out.1).mono ?_
    rintro e w' ⟨rfl, rfl⟩
    go_wp2_with fail
    refine (awithin_yes _ _ _ _ HS.out.2).mono ?_
    rintro e w' ⟨rfl, rfl⟩
    go_wp2
    go_ret
    exact ⟨rfl, rfl⟩
theorem acheck_file (l s t : Int) (w : World) (h : ¬ ((0 ≤ l ∧ l ≤ 64) ∧ (0 ≤ s ∧ s ≤ 1048576) ∧ (0 ≤ t ∧ t ≤ 1099511627776))) : Calls Tryz.prog 97 #[VA 1 l s t] w fun e w' => e = .returned (.int .i64 70) ∧ w' = w.alloc (BA 1 l s t) := by
  by_cases h1 : 0 ≤ l ∧ l ≤ 64
  · by_cases h2 : 0 ≤ s ∧ s ≤ 1048576
    · have H1 : Hid ((0 ≤ l ∧ l ≤ 64) ∧ (0 ≤ s ∧ s ≤ 1048576) ∧ ¬ (0 ≤ t ∧ t ≤ 1099511627776)) := ⟨h1, h2, fun h3 => h ⟨h1, h2, h3⟩⟩
      clear h1 h2 h
      go_enter Tryz.func97, Tryz.ntmps97
      go_wp2_with fail
      refine (awithin_yes _ _ _ _ H1.out.1).mono ?_
      rintro e w' ⟨rfl, rfl⟩
      go_wp2_with fail
      refine (awithin_yes _ _ _ _ H1.out.2.1).mono ?_
      rintro e w' ⟨rfl, rfl⟩
      go_wp2_with fail
      refine (awithin_no _ _ _ _ H1.out.2.2).mono ?_
      rintro e w' ⟨rfl, rfl⟩
      go_wp2
      go_ret
      exact ⟨rfl, rfl⟩
    · have H1 : Hid ((0 ≤ l ∧ l ≤ 64) ∧ ¬ (0 ≤ s ∧ s ≤ 1048576)) := ⟨h1, h2⟩
      clear h1 h2 h
      go_enter Tryz.func97, Tryz.ntmps97
      go_wp2_with fail
      refine (awithin_yes _ _ _ _ H1.out.1).mono ?_
      rintro e w' ⟨rfl, rfl⟩
      go_wp2_with fail
      refine (awithin_no _ _ _ _ H1.out.2).mono ?_
      rintro e w' ⟨rfl, rfl⟩
      go_wp2
      go_ret
      exact ⟨rfl, rfl⟩
  · have H1 : Hid (¬ (0 ≤ l ∧ l ≤ 64)) := h1
    clear h1 h
    go_enter Tryz.func97, Tryz.ntmps97
    go_wp2_with fail
    refine (awithin_no _ _ _ _ H1.out).mono ?_
    rintro e w' ⟨rfl, rfl⟩
    go_wp2
    go_ret
    exact ⟨rfl, rfl⟩
theorem acheck_dir (s t : Int) (w : World) (h : ¬ ((0 ≤ s ∧ s ≤ 1048576) ∧ (0 ≤ t ∧ t ≤ 1099511627776))) : Calls Tryz.prog 97 #[VA 2 1 s t] w fun e w' => e = .returned (.int .i64 70) ∧ w' = w.alloc (BA 2 1 s t) := by
  by_cases h2 : 0 ≤ s ∧ s ≤ 1048576
  · have H1 : Hid ((0 ≤ s ∧ s ≤ 1048576) ∧ ¬ (0 ≤ t ∧ t ≤ 1099511627776)) := ⟨h2, fun h3 => h ⟨h2, h3⟩⟩
    clear h2 h
    go_enter Tryz.func97, Tryz.ntmps97
    go_wp2_with fail
    refine (awithin_yes _ _ _ _ (by decide)).mono ?_
    rintro e w' ⟨rfl, rfl⟩
    go_wp2_with fail
    refine (awithin_yes _ _ _ _ H1.out.1).mono ?_
    rintro e w' ⟨rfl, rfl⟩
    go_wp2_with fail
    refine (awithin_no _ _ _ _ H1.out.2).mono ?_
    rintro e w' ⟨rfl, rfl⟩
    go_wp2
    go_ret
    exact ⟨rfl, rfl⟩
  · have H1 : Hid (¬ (0 ≤ s ∧ s ≤ 1048576)) := h2
    clear h2 h
    go_enter Tryz.func97, Tryz.ntmps97
    go_wp2_with fail
    refine (awithin_yes _ _ _ _ (by decide)).mono ?_
    rintro e w' ⟨rfl, rfl⟩
    go_wp2_with fail
    refine (awithin_no _ _ _ _ H1.out).mono ?_
    rintro e w' ⟨rfl, rfl⟩
    go_wp2
    go_ret
    exact ⟨rfl, rfl⟩
set_option maxHeartbeats 1000000 in
theorem acheck_no (k l s t : Int) (w : World) (h : At.right k l s t = false) : Calls Tryz.prog 97 #[VA k l s t] w fun e w' => e = .returned (.int .i64 70) ∧ w' = w.alloc (BA k l s t) := by
  have hw := At.wrong_iff.1 h
  clear h
  unfold At.rightP at hw
  by_cases k1 : k = 1
  · subst k1
    exact acheck_file l s t w (fun h => hw (.inr ⟨h.2.1, h.2.2, .inl ⟨rfl, h.1⟩⟩))
  by_cases k2 : k = 2
  · by_cases l1 : l = 1
    · subst k2
      subst l1
      exact acheck_dir s t w (fun h => hw (.inr ⟨h.1, h.2, .inr ⟨rfl, rfl⟩⟩))
    · subst k2
      clear hw
      go_enter Tryz.func97, Tryz.ntmps97
      go_wp2
      go_ret
      exact ⟨rfl, rfl⟩
  by_cases k0 : k = 0
  · subst k0
    have hz : ((l == 0) && ((s == 0) && (t == 0))) = false := by
      rw [Bool.eq_false_iff]
      intro h
      simp at h
      exact hw (.inl ⟨rfl, h.1, h.2.1, h.2.2⟩)
    by_cases l0 : l = 0
    · by_cases s0 : s = 0
      · have t0 : ¬ t = 0 := fun h => hw (.inl ⟨rfl, l0, s0, h⟩)
        clear hz hw k1 k2
        subst l0
        subst s0
        go_enter Tryz.func97, Tryz.ntmps97
        go_wp2
        go_ret
        exact ⟨rfl, rfl⟩
      · clear hz hw k1 k2
        subst l0
        go_enter Tryz.func97, Tryz.ntmps97
        go_wp2
        go_ret
        exact ⟨rfl, rfl⟩
    · clear hz hw k1 k2
      go_enter Tryz.func97, Tryz.ntmps97
      go_wp2
      go_ret
      exact ⟨rfl, rfl⟩
  · clear hw
    go_enter Tryz.func97, Tryz.ntmps97
    go_wp2
    go_ret
    exact ⟨rfl, rfl⟩
set_option maxHeartbeats 1000000 in
theorem bcheck_any (v : Value) (l : List Bl.R) (w : World) (hv : FieldsAt w.heap.size w v l) (hok : okFields l) :
    Calls Tryz.prog 98 #[v] w fun e w' => e = .returned (.int .i64 (Bl.err l)) ∧ Below w.heap.size w w' := by
  obtain ⟨ao, cap, rfl, hm, hx⟩ := hv.open
  clear hv
  unfold maxLen at hm
  obtain ⟨n, hn⟩ : ∃ n, l.length = n := ⟨_, rfl⟩
  rw [hn] at hm hx ⊢
  have HN : Hid (l.length = n) := hn
  have HX : Hid (∀ j, j < n → ∃ b off, ao = some ⟨b, off, none⟩ ∧ b < w.heap.size ∧ w.cell? ⟨b, off + j * 2, none⟩ = some (.int .i64 (l.getD j (0, .empty)).1) ∧ w.cell? ⟨b, off + j * 2 + 1, none⟩ = some (.string (l.getD j (0, .empty)).2)) := hx
  have HO : Hid (okFields l) := hok
  clear hn hx hok
  go_enter Tryz.func98, Tryz.ntmps98
  go_wp2
  go_loopw [3, 8] (fun t i wr => ∃ k : Nat, k ≤ n ∧ i = .int .i64 k ∧ t = .int .i64 (Bl.lastEnd (-1) (l.take k)) ∧ Bl.right (-1) (l.take k) ∧ Below w.heap.size w wr) (fun _ i _ => n - (intOf i).toNat)
  case atStart => exact ⟨0, Nat.zero_le _, rfl, rfl, trivial, Below.refl _ _⟩
  case round =>
    obtain ⟨k, hk, rfl, rfl, hr, hbl⟩ := hrel
    have hsz := hbl.size
    obtain ⟨hb0, hb1⟩ := Bl.lastEnd_bd hr
    obtain ⟨la, hla⟩ : ∃ la, Bl.lastEnd (-1) (l.take k) = la := ⟨_, rfl⟩
    rw [hla] at hb0 hb1 ⊢
    have HLA : Hid (Bl.lastEnd (-1) (l.take k) = la) := hla
    have HR : Hid (Bl.right (-1) (l.take k)) := hr
    clear hla hr
    by_cases hlt : k < n
    · obtain ⟨b, off, rfl, hB, c0, c1⟩ := HX.out k hlt
      have hk' : k < l.length := by rw [HN.out]; exact hlt
      have hof := HO.out.at hk'
      rw [← hbl.cell (p := ⟨b, off + k * 2, none⟩) hB] at c0
      rw [← hbl.cell (p := ⟨b, off + k * 2 + 1, none⟩) hB] at c1
      obtain ⟨x, hxk⟩ : ∃ x, l.getD k (0, .empty) = x := ⟨_, rfl⟩
      rw [hxk] at c0 c1 hof
      have HXK : Hid (l.getD k (0, .empty) = x) := hxk
      clear hxk
      obtain ⟨xa, xs⟩ := x
      simp only at c0 c1 hof
      obtain ⟨⟨ha0, ha1⟩, hs1⟩ := hof
      unfold maxLen at hs1
      have hlt' : (k : Int) < (n : Int) := by omega
      by_cases h1 : xs.size = 0
      · have H : Hid (Bl.err l = 80) := Bl.err_bad hk' HXK.out (fun h => h.1 h1)
        have h1' : ((xs.size : Int) == 0) = true := by simp [h1]
        clear h1
        go_wp2
        go_ret
        rw [H.out]
        exact ⟨rfl, hbl.alloc hsz _⟩
      · have h1' : ((xs.size : Int) == 0) = false := beq_eq_false_iff_ne.2 (by omega)
        by_cases h2 : xa ≤ la
        · have H : Hid (Bl.err l = 80) := Bl.err_bad hk' HXK.out (fun h => by have := h.2.1; rw [HLA.out] at this; simp only at this; omega)
          clear h1
          go_wp2
          go_ret
          rw [H.out]
          exact ⟨rfl, hbl.alloc hsz _⟩
        · by_cases h3 : (1048576 : Int) - xs.size < xa
          · have H : Hid (Bl.err l = 80) := Bl.err_bad hk' HXK.out (fun h => by have := h.2.2; simp only at this; omega)
            clear h1
            go_wp2
            go_ret
            rw [H.out]
            exact ⟨rfl, hbl.alloc hsz _⟩
          · have H1 : Hid (¬ xs.size = 0) := h1
            clear h1
            go_wp2_with fail
            refine (bend_any xa xs _ (by omega) (by omega)).mono ?_
            rintro e w1 ⟨rfl, rfl⟩
            go_wp2
            go_roundw
            case rel => exact ⟨k + 1, by omega, by go_num, by rw [Bl.lastEnd_succ hk' HXK.out], (Bl.right_take_succ hk' HXK.out).2 ⟨HR.out, H1.out, by rw [HLA.out]; simp only; omega, by simp only; omega⟩, (hbl.alloc hsz _).alloc (by simp; omega) _⟩
            case measure => simp [intOf]; omega
    · obtain rfl : k = n := by omega
      have H : Hid (Bl.err l = 0) := by
        have := HR.out
        rw [← HN.out, List.take_length] at this
        show Bl.err l = 0
        unfold Bl.err
        rw [if_pos this]
      go_wp2
      go_ret
      rw [H.out]
      exact ⟨rfl, hbl⟩
set_option maxHeartbeats 1000000 in
theorem End_any (v : Value) (l : List Bl.R) (w : World) (hv : FieldsAt w.heap.size w v l) (hok : okFields l) :
    Calls Tryz.prog 99 #[v] w fun e w' => e = .returned (.int .i64 (Bl.endOf l)) ∧ Below w.heap.size w w' := by
  have HV : Hid (FieldsAt w.heap.size w v l) := hv
  obtain ⟨ao, cap, rfl, hm, hx⟩ := hv.open
  clear hv
  unfold maxLen at hm
  by_cases hz : l = []
  · subst hz
    have H : Hid (Bl.endOf [] = 0) := by show Bl.endOf [] = 0; unfold Bl.endOf; split <;> rfl
    rw [H.out]
    go_enter Tryz.func99, Tryz.ntmps99
    go_wp2
    go_ret
    exact ⟨rfl, Below.refl _ _⟩
  · have hp : 0 < l.length := List.length_pos_iff.2 hz
    by_cases hr : Bl.right (-1) l
    · obtain ⟨b, off, rfl, hB, c0, c1⟩ := hx (l.length - 1) (by omega)
      have HE : Hid (Bl.err l = 0) := by show Bl.err l = 0; unfold Bl.err; rw [if_pos hr]
      obtain ⟨x, hxk⟩ : ∃ x, l.getD (l.length - 1) (0, .empty) = x := ⟨_, rfl⟩
      have hmem : x ∈ l := by rw [← hxk]; simp [List.getD, List.getElem?_eq_getElem (show l.length - 1 < l.length by omega)]
      obtain ⟨q0, q1, q2⟩ := Bl.right_mem hr _ hmem
      have H : Hid (Bl.endOf l = x.1 + x.2.size) := by
        show Bl.endOf l = _
        have h := Bl.lastEnd_succ (l := l) (k := l.length - 1) (by omega) hxk
        rw [show l.length - 1 + 1 = l.length by omega, List.take_length] at h
        unfold Bl.endOf
        rw [if_pos hr, Bl.lastEnd_ne hz 0 (-1), h]
      rw [hxk] at c0 c1
      obtain ⟨xa, xs⟩ := x
      unfold Bl.rend at q2
      simp only at c0 c1 q0 q1 q2 H
      replace q2 : xa + (xs.size : Int) ≤ 1048576 := q2
      obtain ⟨n, hn⟩ : ∃ n, l.length - 1 = n := ⟨_, rfl⟩
      have hln : l.length = n + 1 := by omega
      rw [hn] at c0 c1
      rw [hln] at HV hm ⊢
      rw [H.out]
      have HO : Hid (okFields l) := hok
      have hnn : ((n + 1 : Nat) : Int) - 1 = (n : Int) := by omega
      clear hxk hmem hx hp hz hn hln hok
      go_enter Tryz.func99, Tryz.ntmps99
      go_wp2_with fail
      refine (bcheck_any _ l _ HV.out HO.out).mono ?_
      rintro e w1 ⟨rfl, hb1⟩
      rw [HE.out]
      rw [← hb1.cell (p := ⟨b, off + n * 2, none⟩) hB] at c0
      rw [← hb1.cell (p := ⟨b, off + n * 2 + 1, none⟩) hB] at c1
      go_wp2_with fail
      refine (bend_any xa xs _ (by omega) (by omega)).mono ?_
      rintro e w2 ⟨rfl, rfl⟩
      go_wp2
      go_ret
      exact ⟨rfl, hb1.alloc hb1.size _⟩
    · have HE : Hid (Bl.err l = 80) := by show Bl.err l = 80; unfold Bl.err; rw [if_neg hr]
      have H : Hid (Bl.endOf l = 0) := by show Bl.endOf l = 0; unfold Bl.endOf; rw [if_neg hr]
      rw [H.out]
      have hp' : ((l.length : Int) == 0) = false := beq_eq_false_iff_ne.2 (by omega)
      clear hz
      go_enter Tryz.func99, Tryz.ntmps99
      go_wp2_with fail
      refine (bcheck_any _ l _ HV.out hok).mono ?_
      rintro e w1 ⟨rfl, hb1⟩
      rw [HE.out]
      go_wp2
      go_ret
      exact ⟨rfl, hb1⟩
end Go.Proofs.YtacghcoikekfeaaGreat
