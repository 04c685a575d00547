/-
  The texts Number, Fields, Append, Pack, RefPack, as one.
-/
import Derived.WalkKit
import Derived.ProofKit
import Derived.Deep.SlicePairs
import Derived.Deep.AppendSrc
import Derived.BigQuiet
import Derived.Deep.QuietTactic
import Derived.Deep.RegionHeld3
import Derived.Test.YtkdhbjmpjbdobaaGreatDoorM3
/- Number -/
namespace Go.Proofs.YtkdhbjmpjbdobaaGreatDoor
open Go.ChangeShapes Go.WideShapes Go.ChangeAt Go.RowKit Go.Deep
set_option maxRecDepth 100000

theorem head_at (s : ByteArray) (h : 0 < s.size) : (s.data.toList.headD 0) = s[0] := by
  have h2 : 0 < s.data.toList.length := by simpa using h
  match hl : s.data.toList, h2 with
  | b :: r, _ =>
    have : s.data.toList[0]'(by simpa using h) = b := by simp [hl]
    simp only [List.headD_cons]
    rw [← this]
    rfl

set_option maxRecDepth 100000 in
set_option maxHeartbeats 1000000 in
theorem refNumber_any (s : ByteArray) (w : World) (hs : s.size ≤ maxLen) :
    Calls Tryz.prog 101 #[.string s] w fun e w' => e = .returned (.tuple #[.int .i64 (Pl.numVal s), .int .i64 (Pl.numberErr s)]) ∧ w' = w := by
  unfold maxLen at hs
  by_cases h1 : s.size < 1
  · have H : Hid (Pl.numVal s = 0 ∧ Pl.numberErr s = 1) := ⟨by simp [Pl.numVal, Pl.sNum, h1], by simp [Pl.numberErr, Pl.sNum, h1]⟩
    go_enter Tryz.func101, Tryz.ntmps101
    go_wp2
    go_ret2
    rw [H.out.1, H.out.2]
    exact ⟨rfl, rfl⟩
  by_cases h2 : 8 < s.size
  · have H : Hid (Pl.numVal s = 0 ∧ Pl.numberErr s = 1) := ⟨by simp [Pl.numVal, Pl.sNum, h2], by simp [Pl.numberErr, Pl.sNum, h2]⟩
    go_enter Tryz.func101, Tryz.ntmps101
    go_wp2
    go_ret2
    rw [H.out.1, H.out.2]
    exact ⟨rfl, rfl⟩
  have hS : Pl.sNum s = false := by simp only [Pl.sNum, decide_eq_false_iff_not]; omega
  have hp : 0 < s.size := by omega
  have hd := head_at s hp
  by_cases h8 : s.size = 8
  · by_cases h9 : 128 ≤ (s[0]'hp).toNat
    · have hF : Pl.fNum s = true := by simp only [Pl.fNum, hd]; simp [h8, h9]
      have H : Hid (Pl.numVal s = 0 ∧ Pl.numberErr s = 4) := ⟨by simp [Pl.numVal, hF], by simp [Pl.numberErr, hS, hF]⟩
      clear hF hS hd
      have e8 : ((s.size : Int) == 8) = true := by simp [h8]
      have h9' : (127 : Int) < ((s[0]'hp).toNat : Int) := by omega
      clear h8
      go_enter Tryz.func101, Tryz.ntmps101
      go_wp2
      go_ret2
      rw [H.out.1, H.out.2]
      exact ⟨rfl, rfl⟩
    · have hF : Pl.fNum s = false := by simp only [Pl.fNum, hd]; simp; omega
      have e8 : ((s.size : Int) == 8) = true := by simp [h8]
      have h9' : ¬ (127 : Int) < ((s[0]'hp).toNat : Int) := by omega
      have hT := Pl.numOf_take_lt s.data.toList
      have hlen : s.data.toList.length = s.size := by simp
      have HT : Hid (∀ k, k < s.size → Pl.numOf (s.data.toList.take k) < 36028797018963968) := fun k hk => hT k (by omega) (by rw [hlen, hd]; omega) (by omega)
      clear hT hlen
      have H : Hid (Pl.numVal s = Pl.numOf s.data.toList ∧ Pl.numberErr s = 0) := ⟨by simp [Pl.numVal, hS, hF], by simp [Pl.numberErr, hS, hF]⟩
      clear hF hS hd
      clear h8
      go_enter Tryz.func101, Tryz.ntmps101
      go_wp2
      go_loop [4, 5] (fun t i => ∃ k : Nat, k ≤ s.size ∧ i = .int .i64 k ∧ t = .int .i64 (Pl.numOf (s.data.toList.take k))) (fun _ i => s.size - (intOf i).toNat)
      case atStart => exact ⟨0, Nat.zero_le _, rfl, rfl⟩
      case round =>
        obtain ⟨k, hk, rfl, rfl⟩ := hrel
        by_cases hlt : k < s.size
        · have HS : Hid (Pl.numOf (s.data.toList.take (k + 1)) = 256 * Pl.numOf (s.data.toList.take k) + (s[k]'hlt).toNat) := Pl.numOf_take_succ s k hlt
          have hx := HT.out k hlt
          generalize Pl.numOf (s.data.toList.take k) = x at *
          have hby := (s[k]'hlt).toNat_lt
          go_wp2
          go_round
          case rel =>
            refine ⟨k + 1, by omega, by go_num, ?_⟩
            rw [HS.out]
            go_num
          case measure => simp [intOf]; omega
        · obtain rfl : k = s.size := by omega
          rw [List.take_of_length_le (by simp)]
          go_wp2
          go_ret2
          rw [H.out.1, H.out.2]
          exact ⟨rfl, rfl⟩
  · have hF : Pl.fNum s = false := by simp [Pl.fNum, h8]
    have e8 : ((s.size : Int) == 8) = false := by simp; omega
    have hT := Pl.numOf_take_lt s.data.toList
    have hlen : s.data.toList.length = s.size := by simp
    have HT : Hid (∀ k, k < s.size → Pl.numOf (s.data.toList.take k) < 36028797018963968) := fun k hk => hT k (by omega) (by rw [hlen, hd]; omega) (by omega)
    clear hT hlen
    have H : Hid (Pl.numVal s = Pl.numOf s.data.toList ∧ Pl.numberErr s = 0) := ⟨by simp [Pl.numVal, hS, hF], by simp [Pl.numberErr, hS, hF]⟩
    clear hF hS hd
    clear h8
    go_enter Tryz.func101, Tryz.ntmps101
    go_wp2
    go_loop [4, 5] (fun t i => ∃ k : Nat, k ≤ s.size ∧ i = .int .i64 k ∧ t = .int .i64 (Pl.numOf (s.data.toList.take k))) (fun _ i => s.size - (intOf i).toNat)
    case atStart => exact ⟨0, Nat.zero_le _, rfl, rfl⟩
    case round =>
      obtain ⟨k, hk, rfl, rfl⟩ := hrel
      by_cases hlt : k < s.size
      · have HS : Hid (Pl.numOf (s.data.toList.take (k + 1)) = 256 * Pl.numOf (s.data.toList.take k) + (s[k]'hlt).toNat) := Pl.numOf_take_succ s k hlt
        have hx := HT.out k hlt
        generalize Pl.numOf (s.data.toList.take k) = x at *
        have hby := (s[k]'hlt).toNat_lt
        go_wp2
        go_round
        case rel =>
          refine ⟨k + 1, by omega, by go_num, ?_⟩
          rw [HS.out]
          go_num
        case measure => simp [intOf]; omega
      · obtain rfl : k = s.size := by omega
        rw [List.take_of_length_le (by simp)]
        go_wp2
        go_ret2
        rw [H.out.1, H.out.2]
        exact ⟨rfl, rfl⟩

set_option maxRecDepth 100000 in
set_option maxHeartbeats 1000000 in
theorem number_any (s : ByteArray) (w : World) (hs : s.size ≤ maxLen) :
    Calls Tryz.prog 139 #[.string s] w fun e w' => e = .returned (.tuple #[.int .i64 (Pl.numVal s), .int .i64 (Pl.numberErr s)]) ∧ w' = w := by
  unfold maxLen at hs
  by_cases h1 : s.size < 1
  · have H : Hid (Pl.numVal s = 0 ∧ Pl.numberErr s = 1) := ⟨by simp [Pl.numVal, Pl.sNum, h1], by simp [Pl.numberErr, Pl.sNum, h1]⟩
    go_enter Tryz.func139, Tryz.ntmps139
    go_wp2
    go_ret2
    rw [H.out.1, H.out.2]
    exact ⟨rfl, rfl⟩
  by_cases h2 : 8 < s.size
  · have H : Hid (Pl.numVal s = 0 ∧ Pl.numberErr s = 1) := ⟨by simp [Pl.numVal, Pl.sNum, h2], by simp [Pl.numberErr, Pl.sNum, h2]⟩
    go_enter Tryz.func139, Tryz.ntmps139
    go_wp2
    go_ret2
    rw [H.out.1, H.out.2]
    exact ⟨rfl, rfl⟩
  have hS : Pl.sNum s = false := by simp only [Pl.sNum, decide_eq_false_iff_not]; omega
  have hp : 0 < s.size := by omega
  have hd := head_at s hp
  by_cases h8 : s.size = 8
  · by_cases h9 : 128 ≤ (s[0]'hp).toNat
    · have hF : Pl.fNum s = true := by simp only [Pl.fNum, hd]; simp [h8, h9]
      have H : Hid (Pl.numVal s = 0 ∧ Pl.numberErr s = 4) := ⟨by simp [Pl.numVal, hF], by simp [Pl.numberErr, hS, hF]⟩
      clear hF hS hd
      have e8 : ((s.size : Int) == 8) = true := by simp [h8]
      have h9' : (128 : Int) ≤ ((s[0]'hp).toNat : Int) := by omega
      clear h8
      go_enter Tryz.func139, Tryz.ntmps139
      go_wp2
      go_ret2
      rw [H.out.1, H.out.2]
      exact ⟨rfl, rfl⟩
    · have hF : Pl.fNum s = false := by simp only [Pl.fNum, hd]; simp; omega
      have e8 : ((s.size : Int) == 8) = true := by simp [h8]
      have h9' : ¬ (128 : Int) ≤ ((s[0]'hp).toNat : Int) := by omega
      have hT := Pl.numOf_take_lt s.data.toList
      have hlen : s.data.toList.length = s.size := by simp
      have HT : Hid (∀ k, k < s.size → Pl.numOf (s.data.toList.take k) < 36028797018963968) := fun k hk => hT k (by omega) (by rw [hlen, hd]; omega) (by omega)
      clear hT hlen
      have H : Hid (Pl.numVal s = Pl.numOf s.data.toList ∧ Pl.numberErr s = 0) := ⟨by simp [Pl.numVal, hS, hF], by simp [Pl.numberErr, hS, hF]⟩
      clear hF hS hd
      clear h8
      go_enter Tryz.func139, Tryz.ntmps139
      go_wp2
      go_loop [4, 24] (fun t i => ∃ k : Nat, k ≤ s.size ∧ i = .int .i64 k ∧ t = .int .i64 (Pl.numOf (s.data.toList.take k))) (fun _ i => s.size - (intOf i).toNat)
      case atStart => exact ⟨0, Nat.zero_le _, rfl, rfl⟩
      case round =>
        obtain ⟨k, hk, rfl, rfl⟩ := hrel
        by_cases hlt : k < s.size
        · have HS : Hid (Pl.numOf (s.data.toList.take (k + 1)) = 256 * Pl.numOf (s.data.toList.take k) + (s[k]'hlt).toNat) := Pl.numOf_take_succ s k hlt
          have hx := HT.out k hlt
          generalize Pl.numOf (s.data.toList.take k) = x at *
          have hby := (s[k]'hlt).toNat_lt
          have hor := Pl.or_byte x (s[k]'hlt) hx
          go_wp2
          go_round
          case rel =>
            refine ⟨k + 1, by omega, by go_num, ?_⟩
            rw [HS.out]
            go_num
          case measure => simp [intOf]; omega
        · obtain rfl : k = s.size := by omega
          rw [List.take_of_length_le (by simp)]
          go_wp2
          go_ret2
          rw [H.out.1, H.out.2]
          exact ⟨rfl, rfl⟩
  · have hF : Pl.fNum s = false := by simp [Pl.fNum, h8]
    have e8 : ((s.size : Int) == 8) = false := by simp; omega
    have hT := Pl.numOf_take_lt s.data.toList
    have hlen : s.data.toList.length = s.size := by simp
    have HT : Hid (∀ k, k < s.size → Pl.numOf (s.data.toList.take k) < 36028797018963968) := fun k hk => hT k (by omega) (by rw [hlen, hd]; omega) (by omega)
    clear hT hlen
    have H : Hid (Pl.numVal s = Pl.numOf s.data.toList ∧ Pl.numberErr s = 0) := ⟨by simp [Pl.numVal, hS, hF], by simp [Pl.numberErr, hS, hF]⟩
    clear hF hS hd
    clear h8
    go_enter Tryz.func139, Tryz.ntmps139
    go_wp2
    go_loop [4, 24] (fun t i => ∃ k : Nat, k ≤ s.size ∧ i = .int .i64 k ∧ t = .int .i64 (Pl.numOf (s.data.toList.take k))) (fun _ i => s.size - (intOf i).toNat)
    case atStart => exact ⟨0, Nat.zero_le _, rfl, rfl⟩
    case round =>
      obtain ⟨k, hk, rfl, rfl⟩ := hrel
      by_cases hlt : k < s.size
      · have HS : Hid (Pl.numOf (s.data.toList.take (k + 1)) = 256 * Pl.numOf (s.data.toList.take k) + (s[k]'hlt).toNat) := Pl.numOf_take_succ s k hlt
        have hx := HT.out k hlt
        generalize Pl.numOf (s.data.toList.take k) = x at *
        have hby := (s[k]'hlt).toNat_lt
        have hor := Pl.or_byte x (s[k]'hlt) hx
        go_wp2
        go_round
        case rel =>
          refine ⟨k + 1, by omega, by go_num, ?_⟩
          rw [HS.out]
          go_num
        case measure => simp [intOf]; omega
      · obtain rfl : k = s.size := by omega
        rw [List.take_of_length_le (by simp)]
        go_wp2
        go_ret2
        rw [H.out.1, H.out.2]
        exact ⟨rfl, rfl⟩

end Go.Proofs.YtkdhbjmpjbdobaaGreatDoor
/- Fields -/
namespace Go.Proofs.YtkdhbjmpjbdobaaGreatDoor
open Go.ChangeShapes Go.WideShapes Go.ChangeAt Go.RowKit Go.Deep
set_option maxRecDepth 100000

/-- The value v stands for the list l of fields, whose cells lie below block number B. -/
def FieldsAt (B : Nat) (w : World) (v : Value) (l : List (Int × ByteArray)) : Prop :=
  (∃ ao cap, v = .slice ao 0 cap ∧ l = []) ∨
  (∃ b off cap, v = .slice (some ⟨b, off, none⟩) l.length cap ∧ b < B ∧ 0 < l.length ∧ l.length ≤ cap ∧ cap ≤ maxLen ∧
    ∀ i, i < l.length → w.cell? ⟨b, off + i * 2, none⟩ = some (.int .i64 (l.getD i (0, .empty)).1) ∧ w.cell? ⟨b, off + i * 2 + 1, none⟩ = some (.string (l.getD i (0, .empty)).2))

theorem FieldsAt.below {B C : Nat} {w w' : World} {v : Value} {l : List (Int × ByteArray)} (h : FieldsAt B w v l) (hb : Below C w w') (hC : B ≤ C) : FieldsAt B w' v l := by
  rcases h with h | ⟨b, off, cap, hv, hB, hp, hc, hm, hx⟩
  · exact .inl h
  · refine .inr ⟨b, off, cap, hv, hB, hp, hc, hm, fun i hi => ?_⟩
    rw [hb.cell (p := ⟨b, off + i * 2, none⟩) (by show b < C; omega), hb.cell (p := ⟨b, off + i * 2 + 1, none⟩) (by show b < C; omega)]
    exact hx i hi

theorem FieldsAt.mono {B C : Nat} {w : World} {v : Value} {l : List (Int × ByteArray)} (h : FieldsAt B w v l) (hC : B ≤ C) : FieldsAt C w v l := by
  rcases h with h | ⟨b, off, cap, hv, hB, hp, hc, hm, hx⟩
  · exact .inl h
  · exact .inr ⟨b, off, cap, hv, by omega, hp, hc, hm, hx⟩

/-- What reads as fields: each tag an int, each value a string that can be. -/
def okFields (l : List (Int × ByteArray)) : Prop := ∀ x ∈ l, (-9223372036854775808 ≤ x.1 ∧ x.1 ≤ 9223372036854775807) ∧ x.2.size ≤ maxLen

theorem okFields.at {l : List (Int × ByteArray)} (h : okFields l) {i : Nat} (hi : i < l.length) : (-9223372036854775808 ≤ (l.getD i (0, .empty)).1 ∧ (l.getD i (0, .empty)).1 ≤ 9223372036854775807) ∧ (l.getD i (0, .empty)).2.size ≤ maxLen := by
  have : l.getD i (0, .empty) ∈ l := by simp [List.getD, hi]
  exact h _ this

/-- The value v stands for the list l of strings, whose cells lie below block number B. -/
def StrsAt (B : Nat) (w : World) (v : Value) (l : List ByteArray) : Prop :=
  (∃ ao cap, v = .slice ao 0 cap ∧ l = []) ∨
  (∃ b off cap, v = .slice (some ⟨b, off, none⟩) l.length cap ∧ b < B ∧ 0 < l.length ∧ l.length ≤ cap ∧ cap ≤ maxLen ∧
    ∀ i, i < l.length → w.cell? ⟨b, off + i, none⟩ = some (.string (l.getD i .empty)))

theorem StrsAt.below {B C : Nat} {w w' : World} {v : Value} {l : List ByteArray} (h : StrsAt B w v l) (hb : Below C w w') (hC : B ≤ C) : StrsAt B w' v l := by
  rcases h with h | ⟨b, off, cap, hv, hB, hp, hc, hm, hx⟩
  · exact .inl h
  · refine .inr ⟨b, off, cap, hv, hB, hp, hc, hm, fun i hi => ?_⟩
    rw [hb.cell (p := ⟨b, off + i, none⟩) (by show b < C; omega)]
    exact hx i hi

theorem StrsAt.mono' {B C : Nat} {w : World} {v : Value} {l : List ByteArray} (h : StrsAt B w v l) (hC : B ≤ C) : StrsAt C w v l := by
  rcases h with h | ⟨b, off, cap, hv, hB, hp, hc, hm, hx⟩
  · exact .inl h
  · exact .inr ⟨b, off, cap, hv, by omega, hp, hc, hm, hx⟩

/-- An own row of strings, as a list. -/
theorem StrsAt.of_own {base : Nat} {w : World} {v : Value} {e : TypeId} {l : List ByteArray} (h : w.ownsRow base e 1 v l.length (l.map Value.string)) : StrsAt w.heap.size w v l := by
  have hlt := h.lt
  rcases h.2 with ⟨rfl, hn⟩ | ⟨g, cap, cur, rfl, hbg, hg, hnc, hcm, hcs, htake⟩
  · exact .inl ⟨none, 0, rfl, List.eq_nil_of_length_eq_zero hn⟩
  · by_cases hp : 0 < l.length
    · refine .inr ⟨g, 0, cap, rfl, (hlt g rfl).2, hp, hnc, hcm, fun i hi => ?_⟩
      have := h.cells (g := g) rfl i (.string (l.getD i .empty)) (by simp [List.getD, hi])
      rw [WideShapes.add_plain] at this
      exact this
    · have : l = [] := List.eq_nil_of_length_eq_zero (by omega)
      subst this
      exact .inl ⟨_, _, rfl, rfl⟩

/-- An own row of fields, as a list. -/
def cellsOf (l : List (Int × ByteArray)) : List Value := l.flatMap fun x => [.int .i64 x.1, .string x.2]
theorem cellsOf_length (l : List (Int × ByteArray)) : (cellsOf l).length = l.length * 2 := by
  induction l with
  | nil => rfl
  | cons x l ih => simp only [cellsOf, List.flatMap_cons, List.length_append, List.length_cons, List.length_nil] at ih ⊢; omega
theorem cellsOf_append (l m : List (Int × ByteArray)) : cellsOf (l ++ m) = cellsOf l ++ cellsOf m := by simp [cellsOf]
theorem cellsOf_at (l : List (Int × ByteArray)) : ∀ i, i < l.length → (cellsOf l)[i * 2]? = some (.int .i64 (l.getD i (0, .empty)).1) ∧ (cellsOf l)[i * 2 + 1]? = some (.string (l.getD i (0, .empty)).2) := by
  induction l with
  | nil => intro i hi; simp at hi
  | cons x l ih =>
    intro i hi
    match i, hi with
    | 0, _ => simp [cellsOf]
    | i + 1, hi =>
      have := ih i (by simpa using hi)
      have e : cellsOf (x :: l) = .int .i64 x.1 :: .string x.2 :: cellsOf l := by simp [cellsOf]
      rw [e, show (i + 1) * 2 = i * 2 + 1 + 1 from by omega]
      simpa using this

theorem FieldsAt.of_own {base : Nat} {w : World} {v : Value} {e : TypeId} {l : List (Int × ByteArray)} (h : w.ownsRow base e 2 v l.length (cellsOf l)) : FieldsAt w.heap.size w v l := by
  have hlt := h.lt
  rcases h.2 with ⟨rfl, hn⟩ | ⟨g, cap, cur, rfl, hbg, hg, hnc, hcm, hcs, htake⟩
  · exact .inl ⟨none, 0, rfl, List.eq_nil_of_length_eq_zero hn⟩
  · by_cases hp : 0 < l.length
    · refine .inr ⟨g, 0, cap, rfl, (hlt g rfl).2, hp, hnc, hcm, fun i hi => ?_⟩
      have h0 := h.cells (g := g) rfl (i * 2) _ (cellsOf_at l i hi).1
      have h1 := h.cells (g := g) rfl (i * 2 + 1) _ (cellsOf_at l i hi).2
      rw [WideShapes.add_plain] at h0 h1
      exact ⟨h0, by rw [Nat.add_assoc]; exact h1⟩
    · have : l = [] := List.eq_nil_of_length_eq_zero (by omega)
      subst this
      exact .inl ⟨_, _, rfl, rfl⟩

/-- What an argument of such a slice type stands for. -/
theorem open_fields {H : Type} {enc : TypeId × Value → H} {P : Program} {w : World} {t e : TypeId} {f0 f1 : Field} {v : Value} {d : DataW H} {p : List MemPlace}
    (ht : P.underlying t = some (.slice e)) (he : P.underlying e = some (.struct #[f0, f1])) (ce : P.cellsOf e = 2) (o0 : f0.offset = 0) (o1 : f1.offset = 1) (c0 : P.cellsOf f0.type = 1) (c1 : P.cellsOf f1.type = 1)
    (u0 : P.underlying f0.type = some (.int .i64)) (u1 : P.underlying f1.type = some .string)
    (hv : ∃ a len cap, v = .slice a len cap) (hlt : ∀ x ∈ p, x.block < w.heap.size)
    (h : DataW.Trod enc P w 0 (fun _ => true) true t v d p) :
    ∃ (l sp : List (Int × ByteArray)), FieldsAt w.heap.size w v l ∧ okFields l ∧
      (d = .nil ∧ l = [] ∨ d = .slice (l.map fun x => .agg [.lit (.int .i64 x.1), .lit (.string x.2.data.toList)]) (sp.map fun x => .agg [.lit (.int .i64 x.1), .lit (.string x.2.data.toList)])) := by
  obtain ⟨a, len, cap, rfl⟩ := hv
  obtain ⟨fuel, hf⟩ := h
  rcases open_slice_pairs ht he ce o0 o1 c0 c1 (by simpa [Value.cells] using hf) with ⟨hcs, hx⟩ | ⟨a', len', cap', m, n, V0, V1, D0, D1, P0, P1, hcs, _, hl, hm, hmm, hx, hall⟩
  · simp at hcs
    obtain ⟨rfl, rfl, rfl⟩ := hcs
    simp only [Prod.mk.injEq] at hx
    obtain ⟨rfl, rfl⟩ := hx
    exact ⟨[], [], .inl ⟨_, _, rfl, rfl⟩, (fun x hx => by cases hx), .inl ⟨rfl, rfl⟩⟩
  · simp at hcs
    obtain ⟨rfl, rfl, rfl⟩ := hcs
    simp only [Prod.mk.injEq] at hx
    obtain ⟨rfl, rfl⟩ := hx
    simp only [if_true] at hmm
    subst hmm
    have each : ∀ i, i < m → ∃ q : Int × ByteArray, V0 i = .int .i64 q.1 ∧ D0 i = .lit (.int .i64 q.1) ∧ (Lit.int .i64 q.1).wf = true ∧ V1 i = .string q.2 ∧ D1 i = .lit (.string q.2.data.toList) ∧ q.2.size ≤ maxLen := by
      intro i hi
      obtain ⟨_, _, g0, g1⟩ := hall i hi
      obtain ⟨x, e0, y0, wf⟩ := DataW.trod_int u0 g0
      obtain ⟨s, e1, y1, hs⟩ := DataW.trod_string u1 g1
      simp only [List.cons.injEq, and_true, Prod.mk.injEq] at e0 e1 y0 y1
      exact ⟨(x, s), e0, y0.1, wf, e1, y1.1, hs⟩
    have : Inhabited (Int × ByteArray) := ⟨(0, .empty)⟩
    obtain ⟨q, hq⟩ := choose_lt each
    refine ⟨(List.range len).map q, (List.range (m - len)).map fun j => q (len + j), ?_, ?_, .inr ?_⟩
    · by_cases hp : 0 < len
      · obtain ⟨b, off, spot⟩ := a'
        have hspot : spot = none := by simpa [Addr.add] using World.cell?_spot (hall 0 (by omega)).1
        subst hspot
        refine .inr ⟨b, off, m, by simp, ?_, by simpa using hp, by simpa using hl, hm, fun i hi => ?_⟩
        · have := hlt (MemPlace.cell b off) (by
            refine List.mem_append_left _ ?_
            exact List.mem_map.2 ⟨0, List.mem_range.2 (by omega), rfl⟩)
          exact this
        · have hi' : i < len := by simpa using hi
          obtain ⟨g0, g1, _, _⟩ := hall i (by omega)
          rw [WideShapes.add_plain] at g0 g1
          obtain ⟨e0, _, _, e1, _⟩ := hq i (by omega)
          rw [e0] at g0
          rw [e1] at g1
          simp only [List.getD, List.getElem?_map, List.getElem?_range hi', Option.map_some, Option.getD_some]
          exact ⟨g0, by rw [Nat.add_assoc]; exact g1⟩
      · have : len = 0 := by omega
        subst this
        exact .inl ⟨_, _, rfl, rfl⟩
    · intro x hx
      obtain ⟨i, hi, rfl⟩ := List.mem_map.1 hx
      obtain ⟨_, _, wf, _, _, hs⟩ := hq i (by have := List.mem_range.1 hi; omega)
      refine ⟨?_, hs⟩
      simp [Lit.wf, IntKind.min, IntKind.max, IntKind.signed, IntKind.bits] at wf
      omega
    · congr 1
      · rw [List.map_map]
        refine List.map_congr_left fun i hi => ?_
        obtain ⟨_, y0, _, _, y1, _⟩ := hq i (by have := List.mem_range.1 hi; omega)
        simp only [Function.comp, y0, y1]
      · rw [List.map_map]
        refine List.map_congr_left fun j hj => ?_
        obtain ⟨_, y0, _, _, y1, _⟩ := hq (len + j) (by have := List.mem_range.1 hj; omega)
        simp only [Function.comp, y0, y1]
end Go.Proofs.YtkdhbjmpjbdobaaGreatDoor
/- Append -/
namespace Go.Proofs.YtkdhbjmpjbdobaaGreatDoor
set_option maxRecDepth 100000
namespace App
open Go.RowKit
section
variable {P : Program} (w : World)

theorem run_room {size : Nat} (t tx ty e : TypeId) (i : TypeInfo) (hsz : i.size = size) (ht : P.underlying t = some (.slice e)) (hi : P.info? e = some i)
    (g sLen sCap : Nat) (cur : Array Value) (hg : w.heap[g]? = some (.cells cur e (0, 0)))
    (x : Value) (m : Nat) (news : List Value) (hs : Src P size tx x m news w)
    (hroom : sLen + m ≤ sCap) (hfit : sLen * i.size + news.length ≤ cur.size) :
    (Builtin.append_ #[t, tx] ty #[.slice (some ⟨g, 0, none⟩) sLen sCap, x]).run P w =
      .ok (.slice (some ⟨g, 0, none⟩) (sLen + m) sCap) (w.setRow g (cur.toList.take (sLen * i.size) ++ news ++ cur.toList.drop (sLen * i.size + news.length)).toArray) := by
  subst hsz
  have hst := run_storeCells_at P g (sLen * i.size) e news 0 cur w hg (by simpa using hfit) hs.one
  simp only [Nat.add_zero] at hst
  rcases hs.kind with ⟨e', hk⟩ | hk <;> simp [Builtin.append_, run_underlying ht, run_underlying hk, sizeOf, typeInfo, hi, hs.len, hroom, hs.cells, Addr.add_lit, hst]

theorem run_own (base : Nat) (t tx ty e : TypeId) (i : TypeInfo) (z : Value) (size bytes : Nat) (ht : P.underlying t = some (.slice e)) (hi : P.info? e = some i) (hz : i.zero = some z)
    (hsize : i.size = size) (hby : i.bytes = bytes) (hzs : z.cells.size = size)
    (v : Value) (n : Nat) (xs : List Value) (hown : w.ownsRow base e size v n xs)
    (x : Value) (m : Nat) (news : List Value) (hs : Src P size tx x m news w)
    (h63 : n + m ≤ maxLen) (hbytes : (n + m) * bytes ≤ 140737488355328) (hbase : base ≤ w.heap.size) :
    ∃ v' w', (Builtin.append_ #[t, tx] ty #[v, x]).run P w = .ok v' w' ∧ w'.ownsRow base e size v' (n + m) (xs ++ news) ∧ w.grownBy w' v.ownBlock := by
  subst hsize
  subst hby
  have hsmall : n + m ≤ 9223372036854775807 := by simp only [maxLen] at h63; omega
  have hl := hs.newsLen
  have hlen : (xs ++ news).length = (n + m) * i.size := by rw [List.length_append, hown.1, hl, Nat.add_mul]
  have grown : ∀ (old : Nat), old < n + m → ∀ (row : Option Nat),
      (w.drew.alloc (.cells ((xs ++ news).toArray ++ Builtin.zeroCells z.cells (grownCap w (n + m) old e - (n + m))) e)).ownsRow base e i.size
        (.slice (some ⟨w.heap.size, 0, none⟩) (n + m) (grownCap w (n + m) old e)) (n + m) (xs ++ news) ∧
      w.grownBy (w.drew.alloc (.cells ((xs ++ news).toArray ++ Builtin.zeroCells z.cells (grownCap w (n + m) old e - (n + m))) e)) row := by
    intro old ho row
    have hge := grownCap_ge w (n + m) old e
    have hcm : grownCap w (n + m) old e ≤ maxLen := grownCap_le_maxLen w (n + m) old e h63
    refine ⟨⟨hlen, .inr ⟨w.heap.size, _, _, rfl, hbase, heap_alloc_new w.drew _, hge, hcm, ?_, ?_⟩⟩, ⟨rfl, rfl, rfl, by simp, fun k hk _ => Below.heap_alloc w.drew _ k hk⟩⟩
    · simp only [Array.size_append, List.size_toArray, size_zeroCells, hzs, hlen, ← Nat.add_mul]
      congr 1
      omega
    · simp only [Array.toList_append]
      rw [← hlen]
      exact List.take_left
  rcases hown.2 with ⟨rfl, rfl⟩ | ⟨g, cap, cur, rfl, hbg, hg, hnc, hcm, hcs, htake⟩
  · have hx : xs = [] := List.eq_nil_of_length_eq_zero (by simpa using hown.1)
    subst hx
    by_cases hm : m = 0
    · subst hm
      have hn : news = [] := List.eq_nil_of_length_eq_zero (by simpa using hl)
      subst hn
      refine ⟨.slice none 0 0, w, ?_, World.ownsRow_nil w base e i.size, ⟨rfl, rfl, rfl, Nat.le_refl _, fun _ _ _ => rfl⟩⟩
      rcases hs.kind with ⟨e', hk⟩ | hk <;> simp [Builtin.append_, run_underlying ht, run_underlying hk, sizeOf, typeInfo, hi, hs.len, hs.cells]
    · have hr := run_append_grow_src (P := P) w t tx ty e i z ht hi hz none 0 0 [] (run_firstCells_none w.drew _ _ _ _) x m news hs (by omega) (by omega) (growslice_fits (by omega) hbytes)
      have hgr := grown 0 (by omega) (Value.ownBlock (.slice none 0 0))
      simp only [Nat.zero_add, List.nil_append] at hgr hr ⊢
      exact ⟨_, _, hr, hgr.1, hgr.2⟩
  · by_cases hroom : n + m ≤ cap
    · have hfit : n * i.size + news.length ≤ cur.size := by rw [hl, hcs, ← Nat.add_mul]; exact Nat.mul_le_mul_right _ hroom
      have hr := run_room (P := P) w t tx ty e i rfl ht hi g n cap cur hg x m news hs hroom hfit
      refine ⟨_, _, hr, ⟨hlen, .inr ⟨g, cap, _, rfl, hbg, setRow_heap w g cur _ e _ hg, hroom, hcm, ?_, ?_⟩⟩, ⟨rfl, rfl, rfl, by simp, fun k _ hk => setRow_other w g k _ (fun e => hk (by simp [Value.ownBlock, e]))⟩⟩
      · simp only [List.size_toArray, List.length_append, List.length_take, List.length_drop, Array.length_toList]
        omega
      · rw [htake, ← hlen]
        exact List.take_left
    · have holds : ∀ j u, xs[j]? = some u → w.cell? ((⟨g, 0, none⟩ : Addr).add j) = some u := hown.cells (g := g) rfl
      have hr := run_append_grow_src (P := P) w t tx ty e i z ht hi hz (some ⟨g, 0, none⟩) n cap xs (run_firstCells_some w.drew _ _ _ _ _ xs hown.1 (by simpa using holds)) x m news hs (by omega) (by omega) (growslice_fits (by omega) hbytes)
      have hgr := grown cap (by omega) (Value.ownBlock (.slice (some ⟨g, 0, none⟩) n cap))
      exact ⟨_, _, hr, hgr.1, hgr.2⟩

theorem wpList_own {ops : Array Oper} {rest : List Oper} {o : Oper} {a : Act} {Q : Exit → Act → World → Prop} (hgd : o.guard = none) (s x : Operand) (t tx : TypeId)
    (ho : o.op = .call { callee := .builtin .append, args := #[s, x], argTypes := #[t, tx] })
    (base : Nat) (e : TypeId) (i : TypeInfo) (z : Value) (size bytes : Nat) (ht : P.underlying t = some (.slice e)) (hi : P.info? e = some i) (hz : i.zero = some z)
    (hsize : i.size = size) (hby : i.bytes = bytes) (hzs : z.cells.size = size)
    (v : Value) (n : Nat) (xs : List Value) (hv : a.eval s = v) (hown : w.ownsRow base e size v n xs)
    (xv : Value) (m : Nat) (news : List Value) (hx : a.eval x = xv) (hs : Src P size tx xv m news w)
    (h63 : n + m ≤ maxLen) (hbytes : (n + m) * bytes ≤ 140737488355328) (hbase : base ≤ w.heap.size)
    (h : ∀ v' w', w'.ownsRow base e size v' (n + m) (xs ++ news) → w.grownBy w' v.ownBlock → wpList P ops Q rest (a.put o.dst v') w') : wpList P ops Q (o :: rest) a w :=
  wpList_plain hgd fun _ hK => by
    obtain ⟨v', w', hr, h2, h3⟩ := run_own (P := P) w base t tx o.type e i z size bytes ht hi hz hsize hby hzs v n xs hown xv m news hs h63 hbytes hbase
    unfold Oper.wp execOp
    simp only [ho, resolve, invoke, builtin, Sem.run_bind, Sem.run_pure, Result.andThen_ok, List.map_toArray, List.map_cons, List.map_nil, hv, hx, hr]
    exact hK _ _ (h v' w' h2 h3)
end
/-- A block of two cells that an append onto an own row of another element type leaves alone. -/
theorem keep {w w' : World} {base : Nat} {e size : Nat} {v : Value} {n : Nat} {xs : List Value} (h : w.ownsRow base e size v n xs) (hg : w.grownBy w' v.ownBlock) {b : Nat} {c : Array Value} {t : TypeId} {fr : Nat × Nat}
    (hb : w.heap[b]? = some (.cells c t fr)) (hne : t ≠ e) : w'.heap[b]? = some (.cells c t fr) := by
  have hlt : b < w.heap.size := by
    rcases Nat.lt_or_ge b w.heap.size with h' | h'
    · exact h'
    · rw [Array.getElem?_eq_none h'] at hb; cases hb
  rw [hg.block b hlt ?_, hb]
  intro heq
  rcases h.2 with ⟨rfl, _⟩ | ⟨g, cap, cur, rfl, hbg, hgg, hnc, hcm, hcs, htake⟩
  · simp [Value.ownBlock] at heq
  · simp only [Value.ownBlock, Option.some.injEq] at heq
    subst heq
    rw [hgg] at hb
    simp at hb
    exact hne hb.2.1.symm
theorem cell_of_two {w : World} {b : Nat} {x y : Value} {t : TypeId} {fr : Nat × Nat} (hb : w.heap[b]? = some (.cells #[x, y] t fr)) : w.cell? ⟨b, 0, none⟩ = some x ∧ w.cell? ⟨b, 1, none⟩ = some y := by
  constructor <;> simp [World.cell?, hb]
theorem three_new (W : World) (g : Nat) (hg : g = W.heap.size) (a b c : Value) (T : TypeId) : ∀ j u, [a, b, c][j]? = some u → (W.alloc (.cells #[a, b, c] T)).cell? ((⟨g, 0, none⟩ : Addr).add j) = some u := by
  subst hg
  intro j u hj
  rw [Go.WideShapes.add_plain]
  match j, hj with
  | 0, hj => simp at hj; subst hj; simp
  | 1, hj => simp at hj; subst hj; simp
  | 2, hj => simp at hj; subst hj; simp
theorem two_new (W : World) (g : Nat) (hg : g = W.heap.size) (a b : Value) (T : TypeId) : ∀ j u, [a, b][j]? = some u → (W.alloc (.cells #[a, b] T)).cell? ((⟨g, 0, none⟩ : Addr).add j) = some u := by
  subst hg
  intro j u hj
  rw [Go.WideShapes.add_plain]
  match j, hj with
  | 0, hj => simp at hj; subst hj; simp
  | 1, hj => simp at hj; subst hj; simp
theorem one3 (a b c : Int) : ∀ u ∈ [Value.int .u8 a, .int .u8 b, .int .u8 c], u.oneCell' = true := by
  intro u hu
  simp at hu
  rcases hu with rfl | rfl | rfl <;> rfl
theorem one2 (a : Int) (s : ByteArray) : ∀ u ∈ [Value.int .i64 a, .string s], u.oneCell' = true := by
  intro u hu
  simp at hu
  rcases hu with rfl | rfl <;> rfl
end App
end Go.Proofs.YtkdhbjmpjbdobaaGreatDoor
/- Pack -/
namespace Go.Proofs.YtkdhbjmpjbdobaaGreatDoor
open Go.ChangeShapes Go.WideShapes Go.ChangeAt Go.RowKit Go.Deep
set_option maxRecDepth 100000

/-- string(b) of a row of bytes of the call's own. -/
theorem conv_own {base : Nat} {W : World} {v : Value} {l : List UInt8} (h : W.ownsRow base 5 1 v l.length (Pl.bcells l)) : (convert 167 9 v).run Tryz.prog W = .ok (.string (Pl.txt l)) W := by
  rcases h.2 with ⟨rfl, hn⟩ | ⟨g, cap, cur, rfl, hbg, hg, hnc, hcm, hcs, htake⟩
  · obtain rfl := List.eq_nil_of_length_eq_zero hn
    exact run_convert_bytes_nil W 167 5 Tryz.underlying167 Tryz.underlying5 0 0 9 Tryz.underlying9
  · have := conv_bytes W g l.length cap (l.map fun b => (b.toNat : Int)) (by simp) (fun i hi => by
      have := h.cells (g := g) rfl i (.int .u8 ((l.map fun b => (b.toNat : Int)).getD i 0)) (by simp [Pl.bcells, List.getD, hi])
      rw [WideShapes.add_plain, Nat.zero_add] at this
      exact this)
    rw [this, List.map_map]
    congr 3
    exact (List.map_congr_left fun b _ => by simp).trans (List.map_id l)

set_option maxRecDepth 100000 in
set_option maxHeartbeats 1000000 in
theorem pack_any (v : Value) (l : List (Int × ByteArray)) (w : World) (hv : FieldsAt w.heap.size w v l) (hE : (Pl.encs l).length ≤ 1099511627776) :
    Calls Tryz.prog 50 #[v] w fun e w' => e = .returned (.tuple #[.string (Pl.packOut l), .int .i64 (Pl.packErr 1 l)]) ∧ Below w.heap.size w w' := by
  rcases hv with ⟨ao, cap, rfl, rfl⟩ | ⟨b, off, cap, rfl, hB, hp, hlc, hm, hx⟩
  · have hcv : ∀ W : World, (convert 167 9 (.slice none 0 0)).run Tryz.prog W = .ok (.string (Pl.txt [])) W := fun W => conv_own (base := 0) (l := []) (World.ownsRow_nil _ _ _ _)
    go_enter Tryz.func50, Tryz.ntmps50
    go_wp2
    refine wp_loop_rounds 1 ?_
    rw [rounds_succ]
    go_wp2
    go_ret2
    exact ⟨rfl, Below.refl _ _⟩
  · unfold maxLen at hm
    obtain ⟨i0, hi, hz0, hz1, hz2⟩ := info_parts info5
    obtain ⟨n, hn⟩ : ∃ n, l.length = n := ⟨_, rfl⟩
    rw [hn] at hp hlc hx ⊢
    have HN : Hid (l.length = n) := hn
    have HX : Hid (∀ i, i < n → w.cell? ⟨b, off + i * 2, none⟩ = some (.int .i64 (l.getD i (0, .empty)).1) ∧ w.cell? ⟨b, off + i * 2 + 1, none⟩ = some (.string (l.getD i (0, .empty)).2)) := hx
    have HE : Hid (∀ k, (Pl.encs (l.take k)).length ≤ 1099511627776) := fun k => Nat.le_trans (Pl.encs_take_le l k) hE
    clear hn hx hE
    go_enter Tryz.func50, Tryz.ntmps50
    go_wp2
    go_loopw [4, 5, 10] (fun r t i wr => ∃ k : Nat, k ≤ n ∧ i = .int .i64 k ∧ t = .int .i64 (Pl.lastAt 1 l k) ∧ Pl.okTo 1 l k ∧ wr.ownsRow w.heap.size 5 1 r (Pl.encs (l.take k)).length (Pl.bcells (Pl.encs (l.take k))) ∧ Below w.heap.size w wr) (fun _ _ i _ => n - (intOf i).toNat)
    case atStart => exact ⟨0, Nat.zero_le _, rfl, rfl, fun i hi => absurd hi (Nat.not_lt_zero _), World.ownsRow_nil _ _ _ _, Below.refl _ _⟩
    case round =>
      obtain ⟨k, hk, rfl, rfl, hok, hown, hbl⟩ := hrel
      have HOK : Hid (Pl.okTo 1 l k) := hok
      clear hok
      have hsz := hbl.size
      by_cases hlt : k < n
      · obtain ⟨c0, c1⟩ := HX.out k hlt
        rw [← hbl.cell (p := ⟨b, off + k * 2, none⟩) hB] at c0
        rw [← hbl.cell (p := ⟨b, off + k * 2 + 1, none⟩) hB] at c1
        generalize hf : l.getD k (0, .empty) = f at *
        have HF : Hid (l.getD k (0, .empty) = f) := hf
        clear hf
        obtain ⟨t, s⟩ := f
        generalize hla : Pl.lastAt 1 l k = la at *
        have HLA : Hid (Pl.lastAt 1 l k = la) := hla
        clear hla
        by_cases h1 : t < 1
        · have H : Hid (Pl.packOut l = Pl.txt [] ∧ Pl.packErr 1 l = 1) := Pl.pack_bad (by rw [HN.out]; exact hlt) HOK.out HLA.out HF.out (by simp [Pl.badAt, h1]) (by decide)
          go_wp2
          go_ret2
          rw [H.out.1, H.out.2]
          exact ⟨rfl, hbl.alloc hsz _⟩
        by_cases h2 : 255 < t
        · have H : Hid (Pl.packOut l = Pl.txt [] ∧ Pl.packErr 1 l = 1) := Pl.pack_bad (by rw [HN.out]; exact hlt) HOK.out HLA.out HF.out (by simp [Pl.badAt, h2]) (by decide)
          go_wp2
          go_ret2
          rw [H.out.1, H.out.2]
          exact ⟨rfl, hbl.alloc hsz _⟩
        by_cases h3 : 65535 < s.size
        · have H : Hid (Pl.packOut l = Pl.txt [] ∧ Pl.packErr 1 l = 2) := Pl.pack_bad (by rw [HN.out]; exact hlt) HOK.out HLA.out HF.out (by simp [Pl.badAt, h1, h2, h3]) (by decide)
          go_wp2
          go_ret2
          rw [H.out.1, H.out.2]
          exact ⟨rfl, hbl.alloc hsz _⟩
        by_cases h4 : t < la
        · have H : Hid (Pl.packOut l = Pl.txt [] ∧ Pl.packErr 1 l = 11) := Pl.pack_bad (by rw [HN.out]; exact hlt) HOK.out HLA.out HF.out (by simp [Pl.badAt, h1, h2, h3, h4]) (by decide)
          go_wp2
          go_ret2
          rw [H.out.1, H.out.2]
          exact ⟨rfl, hbl.alloc hsz _⟩
        have HB : Hid (Pl.okTo 1 l (k + 1)) := Pl.okTo_succ HOK.out (by rw [HLA.out, HF.out]; simp [Pl.badAt, h1, h2, h3, h4])
        have HEN : Hid (Pl.encs (l.take (k + 1)) = Pl.encs (l.take k) ++ Pl.encOne (t, s)) := Pl.encs_take_succ (by rw [HN.out]; exact hlt) HF.out
        have hE1 := HE.out k
        have HC : Hid (Pl.bcells (Pl.encOne (t, s)) = [.int .u8 t, .int .u8 ((s.size : Int) / 256), .int .u8 ((s.size : Int) % 256)] ++ byteCells s) := Pl.encOne_cells t s (by omega) (by omega) (by omega)
        generalize Pl.encs (l.take k) = E at *
        have hblk : ((wr.alloc (.cells #[.int .i64 t, .string s] 168)).alloc (.cells #[.int .u8 t, .int .u8 ((s.size : Int) / 256), .int .u8 ((s.size : Int) % 256)] 5)).heap[wr.heap.size]? = some (.cells #[.int .i64 t, .string s] 168 (0, 0)) := by
          rw [Below.heap_alloc _ _ _ (by simp)]; exact heap_alloc_new wr _
        have HBK : Hid (((wr.alloc (.cells #[.int .i64 t, .string s] 168)).alloc (.cells #[.int .u8 t, .int .u8 ((s.size : Int) / 256), .int .u8 ((s.size : Int) % 256)] 5)).heap[wr.heap.size]? = some (.cells #[.int .i64 t, .string s] 168 (0, 0))) := hblk
        clear hblk
        have hs3 : (s.size : Int) ≤ 65535 := by omega
        go_wp2_with (first
          | (at_builtin; refine wpList_append_own _ rfl (.tmp 33) (.tmp 46) 167 rfl w.heap.size 5 i0 (.int .u8 0) 1 1 Tryz.underlying167 hi hz0 hz1 hz2 rfl (by decide) _ _ _ rfl ((hown.alloc _).alloc _) ⟨wr.heap.size + 1, 0, none⟩ 3 3 [.int .u8 t, .int .u8 ((s.size : Int) / 256), .int .u8 ((s.size : Int) % 256)] rfl rfl (App.three_new _ _ (by simp) _ _ _ _) (App.one3 _ _ _) (by unfold maxLen; omega) (by omega) (by first | omega | (simp; omega)) ?_; intro v1 w1 hown1 hgrow1 _; have hb1 : Hid (w1.heap[wr.heap.size]? = some (.cells #[.int .i64 t, .string s] 168 (0, 0))) := App.keep ((hown.alloc _).alloc _) hgrow1 HBK.out (by decide); have q0 := (App.cell_of_two hb1.out).1; have q1 := (App.cell_of_two hb1.out).2; have hz := hgrow1.size)
          | (at_builtin; refine App.wpList_own _ rfl (.tmp 48) (.tmp 50) 167 9 rfl w.heap.size 5 i0 (.int .u8 0) 1 1 Tryz.underlying167 hi hz0 hz1 hz2 rfl _ _ _ rfl hown1 _ _ _ rfl (Src.ofString _ Tryz.underlying9 s) (by unfold maxLen; omega) (by omega) (by have := hgrow1.size; simp at this; omega) ?_; intro v2 w2 hown2 hgrow2; have q2 := (App.cell_of_two (App.keep hown1 hgrow2 hb1.out (by decide))).1))
        go_roundw
        case rel =>
          refine ⟨k + 1, by omega, by go_num, by rw [Pl.lastAt_succ HF.out], HB.out, ?_, ?_⟩
          · rw [HEN.out, Pl.bcells_append, HC.out]
            have e : (E ++ Pl.encOne (t, s)).length = E.length + 3 + s.size := by rw [List.length_append, show (Pl.encOne (t, s)).length = 3 + s.size from Pl.encOne_length (t, s)]; omega
            rw [e]
            simpa using hown2
          · exact (((hbl.alloc hsz _).alloc (by simp; omega) _).grown hgrow1 (by simp; omega) (fun g hg => (hown.lt g hg).1)).grown hgrow2 (by simp at hz; omega) (fun g hg => (hown1.lt g hg).1)
        case measure => simp [intOf]; omega
      · obtain rfl : k = n := by omega
        have H : Hid (Pl.packOut l = Pl.txt (Pl.encs l) ∧ Pl.packErr 1 l = 0) := Pl.pack_fine (by rw [HN.out]; exact HOK.out)
        rw [List.take_of_length_le (by rw [HN.out]; exact Nat.le_refl _)] at hown
        have hcv := conv_own hown
        go_wp2
        go_ret2
        rw [H.out.1, H.out.2]
        exact ⟨rfl, hbl⟩
end Go.Proofs.YtkdhbjmpjbdobaaGreatDoor
/- RefPack -/
namespace Go.Proofs.YtkdhbjmpjbdobaaGreatDoor
open Go.ChangeShapes Go.WideShapes Go.ChangeAt Go.RowKit Go.Deep
set_option maxRecDepth 100000

def Pl.u8 (n : Int) : UInt8 := UInt8.ofNat (n % 256).toNat
theorem Pl.txt_step (E : List UInt8) (t : Int) (s : ByteArray) (h1 : 1 ≤ t) (h2 : t ≤ 255) (h3 : s.size ≤ 65535) :
    Pl.txt E ++ Pl.txt [Pl.u8 t] ++ Pl.txt [Pl.u8 ((s.size : Int) / 256)] ++ Pl.txt [Pl.u8 ((s.size : Int) % 256)] ++ s = Pl.txt (E ++ Pl.encOne (t, s)) := by
  have e1 : (t % 256).toNat = t.toNat := by omega
  have e2 : ((s.size : Int) / 256 % 256).toNat = s.size / 256 := by omega
  have e3 : ((s.size : Int) % 256 % 256).toNat = s.size % 256 := by omega
  have hs : s = Pl.txt s.data.toList := (Pl.txt_toList s).symm
  simp only [Pl.u8, e1, e2, e3, Pl.encOne]
  rw [Pl.txt_append, Pl.txt_append, Pl.txt_append]
  have := Pl.txt_append (E ++ [UInt8.ofNat t.toNat] ++ [UInt8.ofNat (s.size / 256)] ++ [UInt8.ofNat (s.size % 256)]) s.data.toList
  rw [← hs] at this
  rw [this]
  simp
theorem byte_u8 (n : Int) (w : World) : Calls Tryz.prog 119 #[.int .i64 n] w fun e w' => e = .returned (.string (Pl.txt [Pl.u8 n])) ∧ Below w.heap.size w w' := byte_any n w

theorem held_step {w w1 w2 : World} {b : Nat} {x y : Value} (h : w1.cell? ⟨b, 0, none⟩ = some x ∧ w1.cell? ⟨b, 1, none⟩ = some y ∧ Below w.heap.size w w1 ∧ b < w1.heap.size) (hb : Below w1.heap.size w1 w2) :
    w2.cell? ⟨b, 0, none⟩ = some x ∧ w2.cell? ⟨b, 1, none⟩ = some y ∧ Below w.heap.size w w2 ∧ b < w2.heap.size := by
  refine ⟨?_, ?_, h.2.2.1.trans (hb.mono h.2.2.1.size), Nat.lt_of_lt_of_le h.2.2.2 hb.size⟩
  · rw [hb.cell (p := ⟨b, 0, none⟩) h.2.2.2]; exact h.1
  · rw [hb.cell (p := ⟨b, 1, none⟩) h.2.2.2]; exact h.2.1

theorem held_start {w wr : World} (hbl : Below w.heap.size w wr) (x y : Value) (T : TypeId) (nq : Nat) :
    ((wr.alloc (.cells #[x, y] T)).drewN nq).drew.cell? ⟨wr.heap.size, 0, none⟩ = some x ∧ ((wr.alloc (.cells #[x, y] T)).drewN nq).drew.cell? ⟨wr.heap.size, 1, none⟩ = some y ∧
      Below w.heap.size w ((wr.alloc (.cells #[x, y] T)).drewN nq).drew ∧ wr.heap.size < ((wr.alloc (.cells #[x, y] T)).drewN nq).drew.heap.size :=
  ⟨by simp, by simp, (Go.below_drewN (hbl.alloc hbl.size _) nq).drew, by simp⟩

set_option maxRecDepth 100000 in
set_option maxHeartbeats 2000000 in
theorem refPack_any (v : Value) (l : List (Int × ByteArray)) (w : World) (hv : FieldsAt w.heap.size w v l) (hE : (Pl.encs l).length ≤ 1099511627776) :
    Calls Tryz.prog 73 #[v] w fun e w' => e = .returned (.tuple #[.string (Pl.packOut l), .int .i64 (Pl.packErr 1 l)]) ∧ Below w.heap.size w w' := by
  rcases hv with ⟨ao, cap, rfl, rfl⟩ | ⟨b, off, cap, rfl, hB, hp, hlc, hm, hx⟩
  · go_enter Tryz.func73, Tryz.ntmps73
    go_wp2
    refine wp_loop_rounds 1 ?_
    rw [rounds_succ]
    go_wp2
    go_ret2
    exact ⟨rfl, Below.refl _ _⟩
  · unfold maxLen at hm
    obtain ⟨n, hn⟩ : ∃ n, l.length = n := ⟨_, rfl⟩
    rw [hn] at hp hlc hx ⊢
    have HN : Hid (l.length = n) := hn
    have HX : Hid (∀ i, i < n → w.cell? ⟨b, off + i * 2, none⟩ = some (.int .i64 (l.getD i (0, .empty)).1) ∧ w.cell? ⟨b, off + i * 2 + 1, none⟩ = some (.string (l.getD i (0, .empty)).2)) := hx
    have HE : Hid (∀ k, (Pl.encs (l.take k)).length ≤ 1099511627776) := fun k => Nat.le_trans (Pl.encs_take_le l k) hE
    clear hn hx hE
    go_enter Tryz.func73, Tryz.ntmps73
    go_wp2
    go_loopw [4, 9] (fun r i wr => ∃ k : Nat, k ≤ n ∧ i = .int .i64 k ∧ Pl.okTo 1 l k ∧ r = .string (Pl.txt (Pl.encs (l.take k))) ∧ Below w.heap.size w wr) (fun _ i _ => n - (intOf i).toNat)
    case atStart => exact ⟨0, Nat.zero_le _, rfl, fun i hi => absurd hi (Nat.not_lt_zero _), rfl, Below.refl _ _⟩
    case round =>
      obtain ⟨k, hk, rfl, hok, rfl, hbl⟩ := hrel
      have HOK : Hid (Pl.okTo 1 l k) := hok
      clear hok
      have hsz := hbl.size
      by_cases hlt : k < n
      · obtain ⟨c0, c1⟩ := HX.out k hlt
        rw [← hbl.cell (p := ⟨b, off + k * 2, none⟩) hB] at c0
        rw [← hbl.cell (p := ⟨b, off + k * 2 + 1, none⟩) hB] at c1
        generalize hf : l.getD k (0, .empty) = f at *
        have HF : Hid (l.getD k (0, .empty) = f) := hf
        clear hf
        obtain ⟨t, s⟩ := f
        by_cases h1 : t < 1
        · have H : Hid (Pl.packOut l = Pl.txt [] ∧ Pl.packErr 1 l = 1) := Pl.pack_bad (by rw [HN.out]; exact hlt) HOK.out rfl HF.out (by simp [Pl.badAt, h1]) (by decide)
          go_wp2
          go_ret2
          rw [H.out.1, H.out.2]
          exact ⟨rfl, hbl.alloc hsz _⟩
        by_cases h2 : 255 < t
        · have H : Hid (Pl.packOut l = Pl.txt [] ∧ Pl.packErr 1 l = 1) := Pl.pack_bad (by rw [HN.out]; exact hlt) HOK.out rfl HF.out (by simp [Pl.badAt, h2]) (by decide)
          go_wp2
          go_ret2
          rw [H.out.1, H.out.2]
          exact ⟨rfl, hbl.alloc hsz _⟩
        by_cases h3 : 65535 < s.size
        · have H : Hid (Pl.packOut l = Pl.txt [] ∧ Pl.packErr 1 l = 2) := Pl.pack_bad (by rw [HN.out]; exact hlt) HOK.out rfl HF.out (by simp [Pl.badAt, h1, h2, h3]) (by decide)
          go_wp2
          go_ret2
          rw [H.out.1, H.out.2]
          exact ⟨rfl, hbl.alloc hsz _⟩
        have hs3 : (s.size : Int) ≤ 65535 := by omega
        have HEN : Hid (Pl.encs (l.take (k + 1)) = Pl.encs (l.take k) ++ Pl.encOne (t, s)) := Pl.encs_take_succ (by rw [HN.out]; exact hlt) HF.out
        have hE1 := HE.out k
        generalize Pl.encs (l.take k) = E at *
        have hw1 : IntKind.i64.wrap ((s.size : Int) / 256) = (s.size : Int) / 256 := by
          have := Pl.wrap_i64_small (s.size / 256) (by omega)
          simpa using this
        have hw2 : (s.size : Int).tmod 256 = (s.size : Int) % 256 := Int.tmod_eq_emod_of_nonneg (by omega)
        have hq1 : ¬ 9223372036854775807 < (Pl.txt E).size + (Pl.txt [Pl.u8 t]).size := by simp only [Pl.txt_size, List.length_cons, List.length_nil]; omega
        have hq2 : ¬ 9223372036854775807 < (Pl.txt E).size + (Pl.txt [Pl.u8 t]).size + (Pl.txt [Pl.u8 ((s.size : Int) / 256)]).size := by simp only [Pl.txt_size, List.length_cons, List.length_nil]; omega
        have hq3 : ¬ 9223372036854775807 < (Pl.txt E).size + (Pl.txt [Pl.u8 t]).size + (Pl.txt [Pl.u8 ((s.size : Int) / 256)]).size + (Pl.txt [Pl.u8 ((s.size : Int) % 256)]).size := by simp only [Pl.txt_size, List.length_cons, List.length_nil]; omega
        have hq4 : ¬ 9223372036854775807 < (Pl.txt E).size + (Pl.txt [Pl.u8 t]).size + (Pl.txt [Pl.u8 ((s.size : Int) / 256)]).size + (Pl.txt [Pl.u8 ((s.size : Int) % 256)]).size + s.size := by simp only [Pl.txt_size, List.length_cons, List.length_nil]; omega
        have HTX : Hid (Pl.txt E ++ Pl.txt [Pl.u8 t] ++ Pl.txt [Pl.u8 ((s.size : Int) / 256)] ++ Pl.txt [Pl.u8 ((s.size : Int) % 256)] ++ s = Pl.txt (E ++ Pl.encOne (t, s))) := Pl.txt_step E t s (by omega) (by omega) (by omega)
        by_cases hk0 : k = 0
        · have HB : Hid (Pl.okTo 1 l (k + 1)) := Pl.okTo_succ HOK.out (by rw [HF.out]; simp [Pl.badAt, h1, h2, h3, Pl.lastAt, hk0])
          have hg : decide (0 < k) = false := by simp [hk0]
          clear hk0
          go_wp2
          go_quiet (fail)
          go_wp2
          go_region_held3 (fun w' => w'.cell? ⟨wr.heap.size, 0, none⟩ = some (.int .i64 t) ∧ w'.cell? ⟨wr.heap.size, 1, none⟩ = some (.string s) ∧ Below w.heap.size w w' ∧ wr.heap.size < w'.heap.size) (first | exact held_start hbl _ _ _ _ | exact held_step (by assumption) (by assumption) | go_keep) (first | (go_at_call 119; refine (byte_u8 _ _).mono ?_; rintro e w2 ⟨rfl, hb2⟩))
          go_wp2
          go_roundw
          case rel =>
            have hS : w2.cell? ⟨wr.heap.size, 0, none⟩ = some (.int .i64 t) ∧ w2.cell? ⟨wr.heap.size, 1, none⟩ = some (.string s) ∧ Below w.heap.size w w2 ∧ wr.heap.size < w2.heap.size := by assumption
            refine ⟨k + 1, by omega, by go_num, HB.out, ?_, hS.2.2.1⟩
            rw [HEN.out, HTX.out]
          case measure => simp [intOf]; omega
        · obtain ⟨j, rfl⟩ : ∃ j, k = j + 1 := ⟨k - 1, by omega⟩
          have hg : decide (0 < j + 1) = true := by simp
          obtain ⟨c2, _⟩ := HX.out j (by omega)
          generalize hla : (l.getD j (0, .empty)).1 = la at *
          have HLA : Hid (Pl.lastAt 1 l (j + 1) = la) := (Pl.lastAt_succ (x := l.getD j (0, .empty)) rfl).trans hla
          clear hla
          rw [← (hbl.alloc hsz (.cells #[.int .i64 t, .string s] 134)).cell (p := ⟨b, off + j * 2, none⟩) hB] at c2
          have hj0 : (j : Int) < (n : Int) := by omega
          by_cases h4 : t < la
          · have H : Hid (Pl.packOut l = Pl.txt [] ∧ Pl.packErr 1 l = 11) := Pl.pack_bad (by rw [HN.out]; exact hlt) HOK.out HLA.out HF.out (by simp [Pl.badAt, h1, h2, h3, h4]) (by decide)
            go_wp2
            go_quiet (fail)
            go_wp2
            go_ret2
            rw [H.out.1, H.out.2]
            exact ⟨rfl, Go.below_drewN (hbl.alloc hsz _) _⟩
          · have HB : Hid (Pl.okTo 1 l (j + 1 + 1)) := Pl.okTo_succ HOK.out (by rw [HF.out, HLA.out]; simp [Pl.badAt, h1, h2, h3, h4])
            go_wp2
            go_quiet (fail)
            go_wp2
            go_region_held3 (fun w' => w'.cell? ⟨wr.heap.size, 0, none⟩ = some (.int .i64 t) ∧ w'.cell? ⟨wr.heap.size, 1, none⟩ = some (.string s) ∧ Below w.heap.size w w' ∧ wr.heap.size < w'.heap.size) (first | exact held_start hbl _ _ _ _ | exact held_step (by assumption) (by assumption) | go_keep) (first | (go_at_call 119; refine (byte_u8 _ _).mono ?_; rintro e w2 ⟨rfl, hb2⟩))
            go_wp2
            go_roundw
            case rel =>
              have hS : w2.cell? ⟨wr.heap.size, 0, none⟩ = some (.int .i64 t) ∧ w2.cell? ⟨wr.heap.size, 1, none⟩ = some (.string s) ∧ Below w.heap.size w w2 ∧ wr.heap.size < w2.heap.size := by assumption
              refine ⟨j + 1 + 1, by omega, by go_num, HB.out, ?_, hS.2.2.1⟩
              rw [HEN.out, HTX.out]
            case measure => simp [intOf]; omega
      · obtain rfl : k = n := by omega
        have H : Hid (Pl.packOut l = Pl.txt (Pl.encs l) ∧ Pl.packErr 1 l = 0) := Pl.pack_fine (by rw [HN.out]; exact HOK.out)
        rw [List.take_of_length_le (by rw [HN.out]; exact Nat.le_refl _)]
        go_wp2
        go_ret2
        rw [H.out.1, H.out.2]
        exact ⟨rfl, hbl⟩
end Go.Proofs.YtkdhbjmpjbdobaaGreatDoor
