/-
  What poly's inner goOn, poly.Sum, the document's bits and Sum, and the nine digits answer, in a world that holds the table: each by its walk.
-/
import Derived.Test.YtlmoibicepppmaaDoorChecked
import Derived.Test.YtlmoibicepppmaaDoorPPlain
import Derived.WalkKit
import Derived.WalkSpells
import Derived.WalkLawsBesides
import Derived.ProofKit
namespace Go.Proofs.YtlmoibicepppmaaDoor.Po
open Go.ChangeShapes Go.WideShapes Go.ChangeAt Go.RowKit
set_option maxRecDepth 100000

theorem bits_step_odd (x : Nat) (hx : x < 4294967296) : bits .xor .i64 ((x : Int) / 2) 3988292384 = ((x / 2 ^^^ 3988292384 : Nat) : Int) := by
  have := Pl.i64_xor (x / 2) 3988292384 (by omega) (by decide)
  simpa using this

theorem bitN_succ (k r : Nat) : Pl.bitN (k + 1) r = Pl.bit (Pl.bitN k r) := Pl.bitN_add k 1 r

set_option maxHeartbeats 400000 in
theorem bits_any (r c : Nat) (w : World) (hr : r < 4294967296) (hc : c < 256) :
    Calls Tryd.prog 55 #[.int .i64 r, .int .i64 c] w fun e w' => e = .returned (.int .i64 (Pl.byte r c)) ∧ w' = w := by
  have hx0 := Pl.i64_xor r c hr (by omega)
  have HB : Hid (∀ k, Pl.bitN k (r ^^^ c) < 4294967296) := fun k => Pl.bitN_lt k (Pl.xor_lt hr (by omega))
  have HP : Hid (Pl.byte r c = Pl.bitN 8 (r ^^^ c)) := rfl
  obtain ⟨y, hy⟩ : ∃ y, r ^^^ c = y := ⟨_, rfl⟩
  rw [hy] at hx0 HB HP
  clear hy
  go_enter Tryd.func55, Tryd.ntmps55
  go_wp2
  go_loop [0, 5] (fun t i => ∃ k : Nat, k ≤ 8 ∧ i = .int .i64 k ∧ t = .int .i64 (Pl.bitN k y)) (fun _ i => 8 - (intOf i).toNat)
  case atStart => exact ⟨0, by omega, rfl, rfl⟩
  case round =>
    obtain ⟨k, hk, rfl, rfl⟩ := hrel
    have hx := HB.out k
    have HS := bitN_succ k y
    by_cases hlt : k < 8
    · generalize hq : Pl.bitN k y = x at *
      have HX : Hid (Pl.bitN (k + 1) y = Pl.bit x) := HS
      clear HS hq hx0
      have ho := bits_step_odd x hx
      by_cases hp : x % 2 = 1
      · have HE : Hid (Pl.bit x = x / 2 ^^^ 3988292384) := by show Pl.bit x = _; unfold Pl.bit; rw [if_pos hp]
        have hp' : ((x : Int) % 2 == 1) = true := by simp; omega
        clear hp
        go_wp2
        go_round
        case rel => exact ⟨k + 1, by omega, by go_num, by rw [HX.out, HE.out]⟩
        case measure => simp [intOf]; omega
      · have HE : Hid (Pl.bit x = x / 2) := by show Pl.bit x = _; unfold Pl.bit; rw [if_neg hp]
        have hp' : ((x : Int) % 2 == 1) = false := by simp; omega
        clear hp
        go_wp2
        go_round
        case rel => exact ⟨k + 1, by omega, by go_num, by rw [HX.out, HE.out]; go_num⟩
        case measure => simp [intOf]; omega
    · obtain rfl : k = 8 := by omega
      clear HS hx0
      go_wp2
      go_ret
      rw [HP.out]
      exact ⟨rfl, rfl⟩

theorem take_snoc (s : ByteArray) (k : Nat) (h : k < s.size) : s.data.toList.take (k + 1) = s.data.toList.take k ++ [s[k]] := by
  rw [List.take_succ_eq_append_getElem (by simpa using h)]; rfl
theorem i64_not (x : Nat) (hx : x < 4294967296) : bits .xor .i64 (x : Int) 4294967295 = ((x ^^^ 4294967295 : Nat) : Int) := Pl.i64_xor x 4294967295 hx (by decide)

set_option maxHeartbeats 400000 in
theorem refSum_any (s : ByteArray) (w : World) (hs : s.size ≤ maxLen) :
    Calls Tryd.prog 45 #[.string s] w fun e w' => e = .returned (.int .i64 (Pl.crc s.data.toList)) ∧ w' = w := by
  unfold maxLen at hs
  have HL : Hid (∀ k, Pl.sums 4294967295 (s.data.toList.take k) < 4294967296) := fun k => Pl.sums_lt _ (by decide)
  have HC : Hid (Pl.crc s.data.toList = Pl.sums 4294967295 s.data.toList ^^^ 4294967295) := rfl
  go_enter Tryd.func45, Tryd.ntmps45
  go_wp2
  go_loop [3, 4] (fun t i => ∃ k : Nat, k ≤ s.size ∧ i = .int .i64 k ∧ t = .int .i64 (Pl.sums 4294967295 (s.data.toList.take k))) (fun _ i => s.size - (intOf i).toNat)
  case atStart => exact ⟨0, by omega, rfl, rfl⟩
  case round =>
    obtain ⟨k, hk, rfl, rfl⟩ := hrel
    have hx := HL.out k
    by_cases hlt : k < s.size
    · have HS : Hid (Pl.sums 4294967295 (s.data.toList.take (k + 1)) = Pl.byte (Pl.sums 4294967295 (s.data.toList.take k)) (s[k]'hlt).toNat) := by
        show _ = _
        rw [take_snoc s k hlt, Pl.sums_snoc]
      generalize Pl.sums 4294967295 (s.data.toList.take k) = x at *
      have hb := (s[k]'hlt).toNat_lt
      go_wp2_with fail
      refine (bits_any x (s[k]'hlt).toNat _ hx hb).mono ?_
      rintro e w' ⟨rfl, rfl⟩
      go_wp2
      go_round
      case rel => exact ⟨k + 1, by omega, by go_num, by rw [HS.out]⟩
      case measure => simp [intOf]; omega
    · obtain rfl : k = s.size := by omega
      rw [List.take_of_length_le (by simp)] at hx ⊢
      generalize hq : Pl.sums 4294967295 s.data.toList = x at *
      clear hq
      have hn := i64_not x hx
      go_wp2
      go_ret
      rw [HC.out]
      exact ⟨rfl, rfl⟩

/-- The table lies in the world. -/
def Tab (w : World) : Prop := ∀ j, j < 16 → w.cell? ⟨0, j, none⟩ = some (.int .u32 (Pl.half j : Int))

theorem u32_xor (a b : Nat) (ha : a < 4294967296) (hb : b < 4294967296) : bits .xor .u32 (a : Int) (b : Int) = ((a ^^^ b : Nat) : Int) := u32_xor_nat a b ha hb
theorem u32_low (x : Nat) (hx : x < 4294967296) : bits .and .u32 (x : Int) 15 = ((x % 16 : Nat) : Int) := by
  have := u32_and_nat x 15 hx (by decide)
  rw [nat_mask4] at this
  exact this

theorem u32_not (x : Nat) (hx : x < 4294967296) : bits .xor .u32 IntKind.u32.max (x : Int) = ((x ^^^ 4294967295 : Nat) : Int) := by
  have h := u32_xor_nat 4294967295 x (by decide) hx
  rw [Nat.xor_comm]
  exact h

theorem u32_step (y h : Nat) (hy : y < 4294967296) (hh : h < 4294967296) : bits .xor .u32 ((y : Int) / 16) (h : Int) = ((y / 16 ^^^ h : Nat) : Int) := by
  have := u32_xor (y / 16) h (by omega) hh
  simpa using this

set_option maxHeartbeats 1000000 in
theorem goOn_any (r : Nat) (s : ByteArray) (w : World) (hr : r < 4294967296) (hs : s.size ≤ maxLen) (ht : Tab w) :
    Calls Tryd.prog 42 #[.int .u32 r, .string s] w fun e w' => e = .returned (.int .u32 (Pl.sums (r ^^^ 4294967295) s.data.toList ^^^ 4294967295 : Nat)) ∧ w' = w := by
  unfold maxLen at hs
  have hn0 := u32_not r hr
  have HT : Hid (Tab w) := ht
  have hr' := Pl.xor_lt hr (show 4294967295 < 4294967296 by decide)
  generalize hq : r ^^^ 4294967295 = q at *
  clear hq
  have HL : Hid (∀ k, Pl.sums q (s.data.toList.take k) < 4294967296) := fun k => Pl.sums_lt _ hr'
  clear ht hr
  go_enter Tryd.func42, Tryd.ntmps42
  go_wp2
  clear hn0
  go_loop [5, 11] (fun t i => ∃ k : Nat, k ≤ s.size ∧ i = .int .i64 k ∧ t = .int .u32 (Pl.sums q (s.data.toList.take k))) (fun _ i => s.size - (intOf i).toNat)
  case atStart => exact ⟨0, by omega, rfl, rfl⟩
  case round =>
    obtain ⟨k, hk, rfl, rfl⟩ := hrel
    have hx := HL.out k
    by_cases hlt : k < s.size
    · have HS : Hid (Pl.sums q (s.data.toList.take (k + 1)) = Pl.byte (Pl.sums q (s.data.toList.take k)) (s[k]'hlt).toNat) := by
        show _ = _
        rw [take_snoc s k hlt, Pl.sums_snoc]
      generalize Pl.sums q (s.data.toList.take k) = x at *
      have hb := (s[k]'hlt).toNat_lt
      have x0 := u32_xor x (s[k]'hlt).toNat hx (by omega)
      have hy := Pl.xor_lt hx (show (s[k]'hlt).toNat < 4294967296 by omega)
      have HB : Hid (Pl.byte x (s[k]'hlt).toNat = Pl.bitN 4 (Pl.bitN 4 (x ^^^ (s[k]'hlt).toNat))) := Pl.bitN_add 4 4 _
      generalize hyy : x ^^^ (s[k]'hlt).toNat = y at *
      clear hyy
      have HB1 : Hid (Pl.bitN 4 y = y / 16 ^^^ Pl.half (y % 16)) := Pl.half_step y
      have l0 := u32_low y hy
      have c0 := HT.out (y % 16) (by omega)
      have hh0 : Pl.half (y % 16) < 4294967296 := Pl.bitN_lt 4 (by omega)
      generalize Pl.half (y % 16) = h0 at *
      have x1 := u32_step y h0 hy hh0
      have hz := Pl.xor_lt (show y / 16 < 4294967296 by omega) hh0
      generalize hzz : y / 16 ^^^ h0 = z at *
      clear hzz
      have HB2 : Hid (Pl.bitN 4 z = z / 16 ^^^ Pl.half (z % 16)) := Pl.half_step z
      have l1 := u32_low z hz
      have c1 := HT.out (z % 16) (by omega)
      have hh1 : Pl.half (z % 16) < 4294967296 := Pl.bitN_lt 4 (by omega)
      generalize Pl.half (z % 16) = h1 at *
      have x2 := u32_step z h1 hz hh1
      generalize hvv : z / 16 ^^^ h1 = v at *
      clear hvv
      go_wp2
      go_round
      case rel => exact ⟨k + 1, by omega, by go_num, by rw [HS.out, HB.out, HB1.out, HB2.out]⟩
      case measure => simp [intOf]; omega
    · obtain rfl : k = s.size := by omega
      rw [List.take_of_length_le (by simp)] at hx ⊢
      generalize hq2 : Pl.sums q s.data.toList = x at *
      have HQ : Hid (Pl.sums q s.data.toList = x) := hq2
      clear hq2
      have hn := u32_not x hx
      go_wp2
      go_ret
      rw [HQ.out]
      exact ⟨rfl, rfl⟩

end Go.Proofs.YtlmoibicepppmaaDoor.Po
