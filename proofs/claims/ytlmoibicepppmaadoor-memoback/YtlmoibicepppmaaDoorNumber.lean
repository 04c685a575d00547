/-
  What tlv.Number and the document's Number answer, in whatever world: each by its walk.
-/
import Derived.Test.YtlmoibicepppmaaDoorNum
import Derived.Test.YtlmoibicepppmaaDoorPlainB
namespace Go.Proofs.YtlmoibicepppmaaDoor
open Go.ChangeShapes Go.WideShapes Go.ChangeAt Go.RowKit Go.Deep
set_option maxRecDepth 100000

theorem head_at (s : ByteArray) (h : 0 < s.size) : (s.data.toList.headD 0) = s[0] := by
  have h2 : 0 < s.data.toList.length := by simpa using h
  match hl : s.data.toList, h2 with
  | b :: r, _ =>
    have : s.data.toList[0]'(by simpa using h) = b := by simp [hl]
    simp only [List.headD_cons]
    rw [← this]
    rfl

set_option maxRecDepth 100000 in
set_option maxHeartbeats 1000000 in
theorem refNumber_any (s : ByteArray) (w : World) (hs : s.size ≤ maxLen) :
    Calls Tryd.prog 53 #[.string s] w fun e w' => e = .returned (.tuple #[.int .i64 (Pl.numVal s), .int .i64 (Pl.numberErr s)]) ∧ w' = w := by
  unfold maxLen at hs
  by_cases h1 : s.size < 1
  · have H : Hid (Pl.numVal s = 0 ∧ Pl.numberErr s = 1) := ⟨by simp [Pl.numVal, Pl.sNum, h1], by simp [Pl.numberErr, Pl.sNum, h1]⟩
    go_enter Tryd.func53, Tryd.ntmps53
    go_wp2
    go_ret2
    rw [H.out.1, H.out.2]
    exact ⟨rfl, rfl⟩
  by_cases h2 : 8 < s.size
  · have H : Hid (Pl.numVal s = 0 ∧ Pl.numberErr s = 1) := ⟨by simp [Pl.numVal, Pl.sNum, h2], by simp [Pl.numberErr, Pl.sNum, h2]⟩
    go_enter Tryd.func53, Tryd.ntmps53
    go_wp2
    go_ret2
    rw [H.out.1, H.out.2]
    exact ⟨rfl, rfl⟩
  have hS : Pl.sNum s = false := by simp only [Pl.sNum, decide_eq_false_iff_not]; omega
  have hp : 0 < s.size := by omega
  have hd := head_at s hp
  by_cases h8 : s.size = 8
  · by_cases h9 : 128 ≤ (s[0]'hp).toNat
    · have hF : Pl.fNum s = true := by simp only [Pl.fNum, hd]; simp [h8, h9]
      have H : Hid (Pl.numVal s = 0 ∧ Pl.numberErr s = 4) := ⟨by simp [Pl.numVal, hF], by simp [Pl.numberErr, hS, hF]⟩
      clear hF hS hd
      have e8 : ((s.size : Int) == 8) = true := by simp [h8]
      have h9' : (127 : Int) < ((s[0]'hp).toNat : Int) := by omega
      clear h8
      go_enter Tryd.func53, Tryd.ntmps53
      go_wp2
      go_ret2
      rw [H.out.1, H.out.2]
      exact ⟨rfl, rfl⟩
    · have hF : Pl.fNum s = false := by simp only [Pl.fNum, hd]; simp; omega
      have e8 : ((s.size : Int) == 8) = true := by simp [h8]
      have h9' : ¬ (127 : Int) < ((s[0]'hp).toNat : Int) := by omega
      have hT := Pl.numOf_take_lt s.data.toList
      have hlen : s.data.toList.length = s.size := by simp
      have HT : Hid (∀ k, k < s.size → Pl.numOf (s.data.toList.take k) < 36028797018963968) := fun k hk => hT k (by omega) (by rw [hlen, hd]; omega) (by omega)
      clear hT hlen
      have H : Hid (Pl.numVal s = Pl.numOf s.data.toList ∧ Pl.numberErr s = 0) := ⟨by simp [Pl.numVal, hS, hF], by simp [Pl.numberErr, hS, hF]⟩
      clear hF hS hd
      clear h8
      go_enter Tryd.func53, Tryd.ntmps53
      go_wp2
      go_loop [4, 5] (fun t i => ∃ k : Nat, k ≤ s.size ∧ i = .int .i64 k ∧ t = .int .i64 (Pl.numOf (s.data.toList.take k))) (fun _ i => s.size - (intOf i).toNat)
      case atStart => exact ⟨0, Nat.zero_le _, rfl, rfl⟩
      case round =>
        obtain ⟨k, hk, rfl, rfl⟩ := hrel
        by_cases hlt : k < s.size
        · have HS : Hid (Pl.numOf (s.data.toList.take (k + 1)) = 256 * Pl.numOf (s.data.toList.take k) + (s[k]'hlt).toNat) := Pl.numOf_take_succ s k hlt
          have hx := HT.out k hlt
          generalize Pl.numOf (s.data.toList.take k) = x at *
          have hby := (s[k]'hlt).toNat_lt
          go_wp2
          go_round
          case rel =>
            refine ⟨k + 1, by omega, by go_num, ?_⟩
            rw [HS.out]
            go_num
          case measure => simp [intOf]; omega
        · obtain rfl : k = s.size := by omega
          rw [List.take_of_length_le (by simp)]
          go_wp2
          go_ret2
          rw [H.out.1, H.out.2]
          exact ⟨rfl, rfl⟩
  · have hF : Pl.fNum s = false := by simp [Pl.fNum, h8]
    have e8 : ((s.size : Int) == 8) = false := by simp; omega
    have hT := Pl.numOf_take_lt s.data.toList
    have hlen : s.data.toList.length = s.size := by simp
    have HT : Hid (∀ k, k < s.size → Pl.numOf (s.data.toList.take k) < 36028797018963968) := fun k hk => hT k (by omega) (by rw [hlen, hd]; omega) (by omega)
    clear hT hlen
    have H : Hid (Pl.numVal s = Pl.numOf s.data.toList ∧ Pl.numberErr s = 0) := ⟨by simp [Pl.numVal, hS, hF], by simp [Pl.numberErr, hS, hF]⟩
    clear hF hS hd
    clear h8
    go_enter Tryd.func53, Tryd.ntmps53
    go_wp2
    go_loop [4, 5] (fun t i => ∃ k : Nat, k ≤ s.size ∧ i = .int .i64 k ∧ t = .int .i64 (Pl.numOf (s.data.toList.take k))) (fun _ i => s.size - (intOf i).toNat)
    case atStart => exact ⟨0, Nat.zero_le _, rfl, rfl⟩
    case round =>
      obtain ⟨k, hk, rfl, rfl⟩ := hrel
      by_cases hlt : k < s.size
      · have HS : Hid (Pl.numOf (s.data.toList.take (k + 1)) = 256 * Pl.numOf (s.data.toList.take k) + (s[k]'hlt).toNat) := Pl.numOf_take_succ s k hlt
        have hx := HT.out k hlt
        generalize Pl.numOf (s.data.toList.take k) = x at *
        have hby := (s[k]'hlt).toNat_lt
        go_wp2
        go_round
        case rel =>
          refine ⟨k + 1, by omega, by go_num, ?_⟩
          rw [HS.out]
          go_num
        case measure => simp [intOf]; omega
      · obtain rfl : k = s.size := by omega
        rw [List.take_of_length_le (by simp)]
        go_wp2
        go_ret2
        rw [H.out.1, H.out.2]
        exact ⟨rfl, rfl⟩

set_option maxRecDepth 100000 in
set_option maxHeartbeats 1000000 in
theorem number_any (s : ByteArray) (w : World) (hs : s.size ≤ maxLen) :
    Calls Tryd.prog 74 #[.string s] w fun e w' => e = .returned (.tuple #[.int .i64 (Pl.numVal s), .int .i64 (Pl.numberErr s)]) ∧ w' = w := by
  unfold maxLen at hs
  by_cases h1 : s.size < 1
  · have H : Hid (Pl.numVal s = 0 ∧ Pl.numberErr s = 1) := ⟨by simp [Pl.numVal, Pl.sNum, h1], by simp [Pl.numberErr, Pl.sNum, h1]⟩
    go_enter Tryd.func74, Tryd.ntmps74
    go_wp2
    go_ret2
    rw [H.out.1, H.out.2]
    exact ⟨rfl, rfl⟩
  by_cases h2 : 8 < s.size
  · have H : Hid (Pl.numVal s = 0 ∧ Pl.numberErr s = 1) := ⟨by simp [Pl.numVal, Pl.sNum, h2], by simp [Pl.numberErr, Pl.sNum, h2]⟩
    go_enter Tryd.func74, Tryd.ntmps74
    go_wp2
    go_ret2
    rw [H.out.1, H.out.2]
    exact ⟨rfl, rfl⟩
  have hS : Pl.sNum s = false := by simp only [Pl.sNum, decide_eq_false_iff_not]; omega
  have hp : 0 < s.size := by omega
  have hd := head_at s hp
  by_cases h8 : s.size = 8
  · by_cases h9 : 128 ≤ (s[0]'hp).toNat
    · have hF : Pl.fNum s = true := by simp only [Pl.fNum, hd]; simp [h8, h9]
      have H : Hid (Pl.numVal s = 0 ∧ Pl.numberErr s = 4) := ⟨by simp [Pl.numVal, hF], by simp [Pl.numberErr, hS, hF]⟩
      clear hF hS hd
      have e8 : ((s.size : Int) == 8) = true := by simp [h8]
      have h9' : (128 : Int) ≤ ((s[0]'hp).toNat : Int) := by omega
      clear h8
      go_enter Tryd.func74, Tryd.ntmps74
      go_wp2
      go_ret2
      rw [H.out.1, H.out.2]
      exact ⟨rfl, rfl⟩
    · have hF : Pl.fNum s = false := by simp only [Pl.fNum, hd]; simp; omega
      have e8 : ((s.size : Int) == 8) = true := by simp [h8]
      have h9' : ¬ (128 : Int) ≤ ((s[0]'hp).toNat : Int) := by omega
      have hT := Pl.numOf_take_lt s.data.toList
      have hlen : s.data.toList.length = s.size := by simp
      have HT : Hid (∀ k, k < s.size → Pl.numOf (s.data.toList.take k) < 36028797018963968) := fun k hk => hT k (by omega) (by rw [hlen, hd]; omega) (by omega)
      clear hT hlen
      have H : Hid (Pl.numVal s = Pl.numOf s.data.toList ∧ Pl.numberErr s = 0) := ⟨by simp [Pl.numVal, hS, hF], by simp [Pl.numberErr, hS, hF]⟩
      clear hF hS hd
      clear h8
      go_enter Tryd.func74, Tryd.ntmps74
      go_wp2
      go_loop [4, 24] (fun t i => ∃ k : Nat, k ≤ s.size ∧ i = .int .i64 k ∧ t = .int .i64 (Pl.numOf (s.data.toList.take k))) (fun _ i => s.size - (intOf i).toNat)
      case atStart => exact ⟨0, Nat.zero_le _, rfl, rfl⟩
      case round =>
        obtain ⟨k, hk, rfl, rfl⟩ := hrel
        by_cases hlt : k < s.size
        · have HS : Hid (Pl.numOf (s.data.toList.take (k + 1)) = 256 * Pl.numOf (s.data.toList.take k) + (s[k]'hlt).toNat) := Pl.numOf_take_succ s k hlt
          have hx := HT.out k hlt
          generalize Pl.numOf (s.data.toList.take k) = x at *
          have hby := (s[k]'hlt).toNat_lt
          have hor := Pl.or_byte x (s[k]'hlt) hx
          go_wp2
          go_round
          case rel =>
            refine ⟨k + 1, by omega, by go_num, ?_⟩
            rw [HS.out]
            go_num
          case measure => simp [intOf]; omega
        · obtain rfl : k = s.size := by omega
          rw [List.take_of_length_le (by simp)]
          go_wp2
          go_ret2
          rw [H.out.1, H.out.2]
          exact ⟨rfl, rfl⟩
  · have hF : Pl.fNum s = false := by simp [Pl.fNum, h8]
    have e8 : ((s.size : Int) == 8) = false := by simp; omega
    have hT := Pl.numOf_take_lt s.data.toList
    have hlen : s.data.toList.length = s.size := by simp
    have HT : Hid (∀ k, k < s.size → Pl.numOf (s.data.toList.take k) < 36028797018963968) := fun k hk => hT k (by omega) (by rw [hlen, hd]; omega) (by omega)
    clear hT hlen
    have H : Hid (Pl.numVal s = Pl.numOf s.data.toList ∧ Pl.numberErr s = 0) := ⟨by simp [Pl.numVal, hS, hF], by simp [Pl.numberErr, hS, hF]⟩
    clear hF hS hd
    clear h8
    go_enter Tryd.func74, Tryd.ntmps74
    go_wp2
    go_loop [4, 24] (fun t i => ∃ k : Nat, k ≤ s.size ∧ i = .int .i64 k ∧ t = .int .i64 (Pl.numOf (s.data.toList.take k))) (fun _ i => s.size - (intOf i).toNat)
    case atStart => exact ⟨0, Nat.zero_le _, rfl, rfl⟩
    case round =>
      obtain ⟨k, hk, rfl, rfl⟩ := hrel
      by_cases hlt : k < s.size
      · have HS : Hid (Pl.numOf (s.data.toList.take (k + 1)) = 256 * Pl.numOf (s.data.toList.take k) + (s[k]'hlt).toNat) := Pl.numOf_take_succ s k hlt
        have hx := HT.out k hlt
        generalize Pl.numOf (s.data.toList.take k) = x at *
        have hby := (s[k]'hlt).toNat_lt
        have hor := Pl.or_byte x (s[k]'hlt) hx
        go_wp2
        go_round
        case rel =>
          refine ⟨k + 1, by omega, by go_num, ?_⟩
          rw [HS.out]
          go_num
        case measure => simp [intOf]; omega
      · obtain rfl : k = s.size := by omega
        rw [List.take_of_length_le (by simp)]
        go_wp2
        go_ret2
        rw [H.out.1, H.out.2]
        exact ⟨rfl, rfl⟩

end Go.Proofs.YtlmoibicepppmaaDoor
