/-
  What tlv.Num, the document's Num and Byte, and the small case answer, in whatever world: each by its walk.
-/
import Derived.Test.YtlmoibicepppmaaDoorChecked
import Derived.Test.YtlmoibicepppmaaDoorPlain
import Derived.WalkKit
import Derived.WalkSpells
import Derived.WalkLawsBesides
import Derived.Laws.BytesArg
import Derived.Deep.OwnRows
import Derived.ProofKit
namespace Go.Proofs.YtlmoibicepppmaaDoor
open Go.ChangeShapes Go.WideShapes Go.ChangeAt Go.RowKit Go.Deep
set_option maxRecDepth 100000

theorem laidOut : laidOutB Tryd.prog = true := by kernel_rfl
theorem own : ownKnob Tryd.prog.godebug = none := by kernel_rfl
theorem i64_le {x : Int} (h : (Lit.int .i64 x).wf = true) : -9223372036854775808 ≤ x ∧ x ≤ 9223372036854775807 := by
  simp [Lit.wf, IntKind.min, IntKind.max, IntKind.signed, IntKind.bits] at h
  exact ⟨by omega, by omega⟩


/-- string(b) of a slice of bytes whose cells are known, in whatever world. -/
theorem conv_bytes (W : World) (b len cap : Nat) (xs : List Int) (hlen : xs.length = len) (hcell : ∀ i, i < len → W.cell? ⟨b, i, none⟩ = some (.int .u8 (xs.getD i 0))) :
    (convert 77 9 (.slice (some ⟨b, 0, none⟩) len cap)).run Tryd.prog W = .ok (.string (Pl.txt (xs.map fun n => UInt8.ofNat n.toNat))) W :=
  run_convert_bytes_arg W 77 5 Tryd.underlying77 Tryd.underlying5 b 0 len cap xs hlen (fun i hi => by rw [Nat.zero_add]; exact hcell i hi) 9 Tryd.underlying9

set_option maxRecDepth 100000 in
set_option maxHeartbeats 400000 in
theorem byte_any (n : Int) (w : World) :
    Calls Tryd.prog 44 #[.int .i64 n] w fun e w' => e = .returned (.string (Pl.txt [UInt8.ofNat (n % 256).toNat])) ∧ Below w.heap.size w w' := by
  have hcv := conv_bytes (w.alloc (Obj.cells #[Value.int IntKind.u8 (n % 256)] 5)) w.heap.size 1 1 [n % 256] rfl (fun i hi => by
    obtain rfl : i = 0 := by omega
    simp)
  go_enter Tryd.func44, Tryd.ntmps44
  go_wp2
  go_ret
  exact ⟨rfl, (Below.refl _ _).alloc (Nat.le_refl _) _⟩

set_option maxRecDepth 100000 in
set_option maxHeartbeats 400000 in
theorem refNum_any (n size : Int) (w : World) (hn : n ≤ 9223372036854775807) :
    Calls Tryd.prog 43 #[.int .i64 n, .int .i64 size] w fun e w' => e = .returned (.tuple #[.string (Pl.numOut n size), .int .i64 (Pl.numErr n size)]) ∧ Below w.heap.size w w' := by
  by_cases h1 : size < 1
  · have hb : Pl.numBad n size = true := by simp [Pl.numBad, h1]
    have H : Hid (Pl.numOut n size = Pl.txt [] ∧ Pl.numErr n size = 1) := ⟨by simp [Pl.numOut, hb], by simp [Pl.numErr, hb]⟩
    clear hb
    go_enter Tryd.func43, Tryd.ntmps43
    go_wp2
    go_ret2
    rw [H.out.1, H.out.2]
    exact ⟨rfl, Below.refl _ _⟩
  by_cases h2 : 8 < size
  · have hb : Pl.numBad n size = true := by simp [Pl.numBad, h2]
    have H : Hid (Pl.numOut n size = Pl.txt [] ∧ Pl.numErr n size = 1) := ⟨by simp [Pl.numOut, hb], by simp [Pl.numErr, hb]⟩
    clear hb
    go_enter Tryd.func43, Tryd.ntmps43
    go_wp2
    go_ret2
    rw [H.out.1, H.out.2]
    exact ⟨rfl, Below.refl _ _⟩
  by_cases h3 : n < 0
  · have hb : Pl.numBad n size = true := by simp [Pl.numBad, h3]
    have H : Hid (Pl.numOut n size = Pl.txt [] ∧ Pl.numErr n size = 1) := ⟨by simp [Pl.numOut, hb], by simp [Pl.numErr, hb]⟩
    clear hb
    go_enter Tryd.func43, Tryd.ntmps43
    go_wp2
    go_ret2
    rw [H.out.1, H.out.2]
    exact ⟨rfl, Below.refl _ _⟩
  obtain ⟨m, rfl⟩ := Int.eq_ofNat_of_zero_le (show 0 ≤ n by omega)
  obtain ⟨z, rfl⟩ := Int.eq_ofNat_of_zero_le (show 0 ≤ size by omega)
  go_enter Tryd.func43, Tryd.ntmps43
  go_wp2
  go_loopw [0, 6, 7] (fun t s i wr => ∃ k : Nat, k ≤ z ∧ i = .int .i64 k ∧ t = .int .i64 ((m / 256 ^ k : Nat) : Int) ∧ s = .string (Pl.txt (Pl.digits k m)) ∧ Below w.heap.size w wr) (fun _ _ i _ => z - (intOf i).toNat)
  case atStart => exact ⟨0, Nat.zero_le _, rfl, by simp, rfl, Below.refl _ _⟩
  case round =>
    obtain ⟨k, hk, rfl, rfl, rfl, hbl⟩ := hrel
    obtain ⟨x, hx⟩ : ∃ x, m / 256 ^ k = x := ⟨_, rfl⟩
    have hxm : x ≤ m := by rw [← hx]; exact Nat.div_le_self _ _
    rw [hx]
    have HX : Hid (m / 256 ^ k = x) := hx
    clear hx
    by_cases hlt : k < z
    · go_wp2_with fail
      refine (byte_any _ _).mono ?_
      rintro e w' ⟨rfl, hb'⟩
      have hts := Pl.txt_size
      have hdl := Pl.digits_length
      go_wp2
      go_roundw
      case rel =>
        have hm := HX.out
        refine ⟨k + 1, by omega, by go_num, ?_, ?_, hbl.trans (hb'.mono hbl.size)⟩
        · have := Pl.div_step m k
          rw [Int.toNat_natCast, hm] at this
          rw [this]
        · rw [Pl.digits_succ, hm, Pl.txt_append]; rfl
      case measure => simp [intOf]; omega
    · obtain rfl : k = z := by omega
      by_cases h0 : x = 0
      · have hb : Pl.numBad m k = false := by simp [Pl.numBad, HX.out, h0]; omega
        have H : Hid (Pl.numOut m k = Pl.txt (Pl.digits k m) ∧ Pl.numErr m k = 0) := ⟨by simp [Pl.numOut, hb], by simp [Pl.numErr, hb]⟩
        clear hb
        have h0' : ¬ (0 : Int) < (x : Int) := by omega
        have H0 : Hid (x = 0) := h0
        clear h0
        go_wp2
        go_ret2
        rw [H.out.1, H.out.2]
        exact ⟨rfl, hbl⟩
      · have hb : Pl.numBad m k = true := by simp [Pl.numBad, HX.out, h0]
        have H : Hid (Pl.numOut m k = Pl.txt [] ∧ Pl.numErr m k = 1) := ⟨by simp [Pl.numOut, hb], by simp [Pl.numErr, hb]⟩
        clear hb
        have h0' : (0 : Int) < (x : Int) := by omega
        go_wp2
        go_ret2
        rw [H.out.1, H.out.2]
        exact ⟨rfl, hbl⟩

theorem info5 : (Tryd.prog.info? 5).map (fun i => (i.zero, i.size, i.bytes)) = some (some (.int .u8 0), 1, 1) := by kernel_rfl

def numRow (m z r q : Nat) : Value := .int .u8 (if r ≤ q then (m / 256 ^ (z - 1 - q) % 256 : Nat) else 0)

set_option maxRecDepth 100000 in
set_option maxHeartbeats 400000 in
theorem num_any (n size : Int) (w : World) (hn : n ≤ 9223372036854775807) :
    Calls Tryd.prog 54 #[.int .i64 n, .int .i64 size] w fun e w' => e = .returned (.tuple #[.string (Pl.numOut n size), .int .i64 (Pl.numErr n size)]) ∧ Below w.heap.size w w' := by
  by_cases h1 : size < 1
  · have hb : Pl.numBad n size = true := by simp [Pl.numBad, h1]
    have H : Hid (Pl.numOut n size = Pl.txt [] ∧ Pl.numErr n size = 1) := ⟨by simp [Pl.numOut, hb], by simp [Pl.numErr, hb]⟩
    clear hb
    go_enter Tryd.func54, Tryd.ntmps54
    go_wp2
    go_ret2
    rw [H.out.1, H.out.2]
    exact ⟨rfl, Below.refl _ _⟩
  by_cases h2 : 8 < size
  · have hb : Pl.numBad n size = true := by simp [Pl.numBad, h2]
    have H : Hid (Pl.numOut n size = Pl.txt [] ∧ Pl.numErr n size = 1) := ⟨by simp [Pl.numOut, hb], by simp [Pl.numErr, hb]⟩
    clear hb
    go_enter Tryd.func54, Tryd.ntmps54
    go_wp2
    go_ret2
    rw [H.out.1, H.out.2]
    exact ⟨rfl, Below.refl _ _⟩
  by_cases h3 : n < 0
  · have hb : Pl.numBad n size = true := by simp [Pl.numBad, h3]
    have H : Hid (Pl.numOut n size = Pl.txt [] ∧ Pl.numErr n size = 1) := ⟨by simp [Pl.numOut, hb], by simp [Pl.numErr, hb]⟩
    clear hb
    go_enter Tryd.func54, Tryd.ntmps54
    go_wp2
    go_ret2
    rw [H.out.1, H.out.2]
    exact ⟨rfl, Below.refl _ _⟩
  obtain ⟨m, rfl⟩ := Int.eq_ofNat_of_zero_le (show 0 ≤ n by omega)
  obtain ⟨z, rfl⟩ := Int.eq_ofNat_of_zero_le (show 0 ≤ size by omega)
  have hmk := run_make_row' (P := Tryd.prog) 77 5 (.int .u8 0) 1 Tryd.underlying77 info5 rfl .i64 .i64 z (by omega) (by omega)
  go_enter Tryd.func54, Tryd.ntmps54
  go_wp2
  go_loopw [0, 7] (fun t i wr => ∃ r : Nat, r ≤ z ∧ i = .int .i64 ((r : Int) - 1) ∧ t = .int .i64 ((m / 256 ^ (z - r) : Nat) : Int) ∧ wr.rowIs w.heap.size 5 z (numRow m z r) ∧ Below w.heap.size w wr) (fun _ i _ => (intOf i + 1).toNat)
  case atStart =>
    refine ⟨z, Nat.le_refl _, rfl, by simp, (World.rowIs_made w (.int .u8 0) z 5).congr fun q hq => ?_, (Below.refl _ _).alloc (Nat.le_refl _) _⟩
    simp [numRow, Nat.not_le.2 hq]
  case round =>
    obtain ⟨r, hr, rfl, rfl, hrow, hbl⟩ := hrel
    obtain ⟨x, hx⟩ : ∃ x, m / 256 ^ (z - r) = x := ⟨_, rfl⟩
    have hxm : x ≤ m := by rw [← hx]; exact Nat.div_le_self _ _
    rw [hx]
    have HX : Hid (m / 256 ^ (z - r) = x) := hx
    clear hx hmk
    match r, hr with
    | j + 1, hr =>
      have hj : ((j + 1 : Nat) : Int) - 1 = (j : Int) := by omega
      rw [hj]
      clear hj
      have hc := hrow.cell (i := j) (by omega)
      have hf := hrow.frozen j
      have H : Hid (wr.rowIs w.heap.size 5 z (numRow m z (j + 1))) := hrow
      clear hrow
      have hjz : j < z := by omega
      go_wp2
      go_roundw
      case rel =>
        have hm := HX.out
        refine ⟨j, by omega, rfl, ?_, (H.out.set j _).congr fun q hq => ?_, hbl.setCell (Nat.le_refl _) _⟩
        · have := Pl.div_step m (z - (j + 1))
          rw [Int.toNat_natCast, hm] at this
          rw [this, show z - (j + 1) + 1 = z - j from by omega]
        · unfold numRow
          by_cases hq1 : q = j
          · subst hq1
            rw [if_pos rfl, if_pos (Nat.le_refl _), show z - 1 - q = z - (q + 1) from by omega, hm]
            simp
          · rw [if_neg hq1]
            by_cases hq2 : j ≤ q
            · rw [if_pos hq2, if_pos (by omega)]
            · rw [if_neg hq2, if_neg (by omega)]
      case measure => simp [intOf]
    | 0, hr =>
      have hz0 : z - 0 = z := by omega
      by_cases h0 : x = 0
      · have hb : Pl.numBad m z = false := by
          have := HX.out
          rw [hz0] at this
          simp [Pl.numBad, this, h0]; omega
        have H : Hid (Pl.numOut m z = Pl.txt (Pl.digits z m) ∧ Pl.numErr m z = 0) := ⟨by simp [Pl.numOut, hb], by simp [Pl.numErr, hb]⟩
        clear hb
        have hcv := conv_bytes wr w.heap.size z z ((List.range z).map fun q => ((m / 256 ^ (z - 1 - q) % 256 : Nat) : Int)) (by simp) (fun i hi => by
          rw [hrow.cell hi]
          simp [numRow, hi, List.getD])
        rw [show List.map (fun n : Int => UInt8.ofNat n.toNat) ((List.range z).map fun q => ((m / 256 ^ (z - 1 - q) % 256 : Nat) : Int)) = Pl.digits z m from by simp only [List.map_map, Pl.digits]; exact List.map_congr_left fun q _ => by simp only [Function.comp, Int.toNat_natCast]] at hcv
        have h0' : ((x : Int) != 0) = false := by simp [h0]
        have H0 : Hid (x = 0) := h0
        clear h0
        go_wp2
        go_ret2
        rw [H.out.1, H.out.2]
        exact ⟨rfl, hbl⟩
      · have hb : Pl.numBad m z = true := by
          have := HX.out
          rw [hz0] at this
          simp [Pl.numBad, this, h0]
        have H : Hid (Pl.numOut m z = Pl.txt [] ∧ Pl.numErr m z = 1) := ⟨by simp [Pl.numOut, hb], by simp [Pl.numErr, hb]⟩
        clear hb
        have h0' : ((x : Int) != 0) = true := by simp [h0]
        go_wp2
        go_ret2
        rw [H.out.1, H.out.2]
        exact ⟨rfl, hbl⟩
theorem small_num : Pl.numOut 258 2 = ⟨#[1, 2]⟩ ∧ Pl.numErr 258 2 = 0 := by decide

end Go.Proofs.YtlmoibicepppmaaDoor
