/-
  What poly.Guard, poly.Unguard and the document's Guard and Unguard answer, in a world that holds the table: each by its walk.
-/
import Derived.Test.YtlmoibicepppmaaDoorPSum
import Derived.Laws.BytesArg
namespace Go.Proofs.YtlmoibicepppmaaDoor.Po
open Go.ChangeShapes Go.WideShapes Go.ChangeAt Go.RowKit
set_option maxRecDepth 100000

namespace Pl
def txt (l : List UInt8) : ByteArray := ⟨l.toArray⟩
theorem txt_size (l : List UInt8) : (txt l).size = l.length := by simp [txt, ByteArray.size]
def tail4 (c : Nat) : ByteArray := txt [UInt8.ofNat (c % 256), UInt8.ofNat (c / 256 % 256), UInt8.ofNat (c / 65536 % 256), UInt8.ofNat (c / 16777216 % 256)]
def guardOf (s : ByteArray) : ByteArray := s ++ tail4 (crc s.data.toList)
theorem tail4_size (c : Nat) : (tail4 c).size = 4 := by simp [tail4, txt_size]
theorem guardOf_size (s : ByteArray) : (guardOf s).size = s.size + 4 := by rw [guardOf, ByteArray.size_append, tail4_size]
end Pl

theorem Tab.pos {w : World} (h : Tab w) : 0 < w.heap.size := by
  have h0 := h 0 (by decide)
  rcases Nat.eq_zero_or_pos w.heap.size with h' | h'
  · have : w.heap[0]? = none := Array.getElem?_eq_none (by omega)
    simp [World.cell?, this] at h0
  · exact h'
theorem Tab.below {w w' : World} (h : Tab w) (hb : Below w.heap.size w w') : Tab w' := fun j hj => by
  rw [hb.cell (p := ⟨0, j, none⟩) h.pos]
  exact h j hj

theorem conv_four (W : World) (b : Nat) (x0 x1 x2 x3 : Int) (h0 : W.cell? ⟨b, 0, none⟩ = some (.int .u8 x0)) (h1 : W.cell? ⟨b, 1, none⟩ = some (.int .u8 x1)) (h2 : W.cell? ⟨b, 2, none⟩ = some (.int .u8 x2)) (h3 : W.cell? ⟨b, 3, none⟩ = some (.int .u8 x3)) :
    (convert 77 9 (.slice (some ⟨b, 0, none⟩) 4 4)).run Tryd.prog W = .ok (.string (Pl.txt ([x0, x1, x2, x3].map fun n => UInt8.ofNat n.toNat))) W :=
  run_convert_bytes_arg W 77 5 Tryd.underlying77 Tryd.underlying5 b 0 4 4 [x0, x1, x2, x3] rfl (fun i hi => by
    rw [Nat.zero_add]
    match i, hi with
    | 0, _ => simpa using h0
    | 1, _ => simpa using h1
    | 2, _ => simpa using h2
    | 3, _ => simpa using h3) 9 Tryd.underlying9

theorem conv_tail (w : World) (c : Nat) (hc : c < 4294967296) :
    (convert 77 9 (.slice (some ⟨w.heap.size, 0, none⟩) 4 4)).run Tryd.prog (w.alloc (.cells #[.int .u8 ((c : Int) % 256), .int .u8 ((c : Int) / 256 % 256), .int .u8 ((c : Int) / 65536 % 256), .int .u8 ((c : Int) / 16777216)] 5)) =
      .ok (.string (Pl.tail4 c)) (w.alloc (.cells #[.int .u8 ((c : Int) % 256), .int .u8 ((c : Int) / 256 % 256), .int .u8 ((c : Int) / 65536 % 256), .int .u8 ((c : Int) / 16777216)] 5)) := by
  have h := conv_four (w.alloc (.cells #[.int .u8 ((c : Int) % 256), .int .u8 ((c : Int) / 256 % 256), .int .u8 ((c : Int) / 65536 % 256), .int .u8 ((c : Int) / 16777216)] 5)) w.heap.size ((c : Int) % 256) ((c : Int) / 256 % 256) ((c : Int) / 65536 % 256) ((c : Int) / 16777216) (by simp) (by simp) (by simp) (by simp)
  rw [h]
  congr 3
  simp only [List.map_cons, List.map_nil]
  rw [show ((c : Int) % 256).toNat = c % 256 from by omega, show ((c : Int) / 256 % 256).toNat = c / 256 % 256 from by omega, show ((c : Int) / 65536 % 256).toNat = c / 65536 % 256 from by omega,
    show ((c : Int) / 16777216).toNat = c / 16777216 % 256 from by omega]

set_option maxHeartbeats 400000 in
theorem guard_any (s : ByteArray) (w : World) (hs : s.size ≤ 1125899906842624) (ht : Tab w) :
    Calls Tryd.prog 18 #[.string s] w fun e w' => e = .returned (.string (Pl.guardOf s)) ∧ Below w.heap.size w w' := by
  have HC : Hid (Pl.sums (0 ^^^ 4294967295) s.data.toList ^^^ 4294967295 = Pl.crc s.data.toList) := rfl
  have hc := Pl.crc_lt s.data.toList
  have HT : Hid (Tab w) := ht
  have HG : Hid (Pl.guardOf s = s ++ Pl.tail4 (Pl.crc s.data.toList)) := rfl
  have HS : Hid (s.size ≤ maxLen) := by show s.size ≤ maxLen; unfold maxLen; omega
  clear ht
  go_enter Tryd.func18, Tryd.ntmps18
  go_wp2_with fail
  refine (goOn_any 0 s _ (by decide) HS.out HT.out).mono ?_
  rintro e w' ⟨rfl, rfl⟩
  rw [HC.out]
  generalize Pl.crc s.data.toList = c at *
  have hcv := conv_tail w' c hc
  have hsz := Pl.tail4_size c
  have hl : ¬ 9223372036854775807 < s.size + 4 := by omega
  go_wp2
  go_ret
  rw [HG.out]
  exact ⟨rfl, (Below.refl _ _).alloc (Nat.le_refl _) _⟩

set_option maxHeartbeats 400000 in
theorem refGuard_any (s : ByteArray) (w : World) (hs : s.size ≤ 1125899906842624) :
    Calls Tryd.prog 22 #[.string s] w fun e w' => e = .returned (.string (Pl.guardOf s)) ∧ Below w.heap.size w w' := by
  have hc := Pl.crc_lt s.data.toList
  have HG : Hid (Pl.guardOf s = s ++ Pl.tail4 (Pl.crc s.data.toList)) := rfl
  have HS : Hid (s.size ≤ maxLen) := by show s.size ≤ maxLen; unfold maxLen; omega
  go_enter Tryd.func22, Tryd.ntmps22
  go_wp2_with fail
  refine (refSum_any s _ HS.out).mono ?_
  rintro e w' ⟨rfl, rfl⟩
  generalize Pl.crc s.data.toList = c at *
  have hcv := conv_tail w' c hc
  have hsz := Pl.tail4_size c
  have hl : ¬ 9223372036854775807 < s.size + 4 := by omega
  go_wp2
  go_ret
  rw [HG.out]
  exact ⟨rfl, (Below.refl _ _).alloc (Nat.le_refl _) _⟩

namespace Pl
def body (s : ByteArray) : ByteArray := s.extract 0 (s.size - 4)
def ungErr (s : ByteArray) : Int := if s.size < 4 then 10 else if guardOf (body s) = s then 0 else 20
def ungOut (s : ByteArray) : ByteArray := if s.size < 4 then ⟨#[]⟩ else if guardOf (body s) = s then body s else ⟨#[]⟩
end Pl

set_option maxHeartbeats 400000 in
theorem unguard_any (s : ByteArray) (w : World) (hs : s.size ≤ 1125899906842624) (ht : Tab w) :
    Calls Tryd.prog 59 #[.string s] w fun e w' => e = .returned (.tuple #[.string (Pl.ungOut s), .int .i64 (Pl.ungErr s)]) ∧ Below w.heap.size w w' := by
  have HT : Hid (Tab w) := ht
  clear ht
  by_cases h4 : s.size < 4
  · have H : Hid (Pl.ungOut s = ⟨#[]⟩ ∧ Pl.ungErr s = 10) := ⟨by simp [Pl.ungOut, h4], by simp [Pl.ungErr, h4]⟩
    go_enter Tryd.func59, Tryd.ntmps59
    go_wp2
    go_ret2
    rw [H.out.1, H.out.2]
    exact ⟨rfl, Below.refl _ _⟩
  · have HB : Hid ((s.extract 0 (s.size - 4)).size ≤ 1125899906842624) := by show _ ≤ _; rw [ByteArray.size_extract]; omega
    by_cases he : Pl.guardOf (s.extract 0 (s.size - 4)) = s
    · have H : Hid (Pl.ungOut s = s.extract 0 (s.size - 4) ∧ Pl.ungErr s = 0) := ⟨by unfold Pl.ungOut; rw [if_neg h4]; exact if_pos he, by unfold Pl.ungErr; rw [if_neg h4]; exact if_pos he⟩
      have HE : Hid (Pl.guardOf (s.extract 0 (s.size - 4)) = s) := he
      clear he
      go_enter Tryd.func59, Tryd.ntmps59
      go_wp2_with fail
      refine (guard_any (s.extract 0 (s.size - 4)) _ HB.out HT.out).mono ?_
      rintro e w' ⟨rfl, hb⟩
      rw [HE.out]
      go_wp2
      go_ret2
      rw [H.out.1, H.out.2]
      exact ⟨rfl, hb⟩
    · have H : Hid (Pl.ungOut s = ⟨#[]⟩ ∧ Pl.ungErr s = 20) := ⟨by unfold Pl.ungOut; rw [if_neg h4]; exact if_neg he, by unfold Pl.ungErr; rw [if_neg h4]; exact if_neg he⟩
      have hne : ((Pl.guardOf (s.extract 0 (s.size - 4))).toList == s.toList) = false := by
        rw [ByteArray.toList_eq, ByteArray.toList_eq, beq_eq_false_iff_ne]
        exact fun h => he (Go.WideShapes.bytes_inj h)
      generalize hg : Pl.guardOf (s.extract 0 (s.size - 4)) = g at *
      have HG : Hid (Pl.guardOf (s.extract 0 (s.size - 4)) = g) := hg
      clear hg he
      go_enter Tryd.func59, Tryd.ntmps59
      go_wp2_with fail
      refine (guard_any (s.extract 0 (s.size - 4)) _ HB.out HT.out).mono ?_
      rintro e w' ⟨rfl, hb⟩
      rw [HG.out]
      go_wp2
      go_ret2
      rw [H.out.1, H.out.2]
      exact ⟨rfl, hb⟩

set_option maxHeartbeats 400000 in
theorem refUnguard_any (s : ByteArray) (w : World) (hs : s.size ≤ 1125899906842624) :
    Calls Tryd.prog 35 #[.string s] w fun e w' => e = .returned (.tuple #[.string (Pl.ungOut s), .int .i64 (Pl.ungErr s)]) ∧ Below w.heap.size w w' := by
  by_cases h4 : s.size < 4
  · have H : Hid (Pl.ungOut s = ⟨#[]⟩ ∧ Pl.ungErr s = 10) := ⟨by simp [Pl.ungOut, h4], by simp [Pl.ungErr, h4]⟩
    go_enter Tryd.func35, Tryd.ntmps35
    go_wp2
    go_ret2
    rw [H.out.1, H.out.2]
    exact ⟨rfl, Below.refl _ _⟩
  · have HB : Hid ((s.extract 0 (s.size - 4)).size ≤ 1125899906842624) := by show _ ≤ _; rw [ByteArray.size_extract]; omega
    by_cases he : Pl.guardOf (s.extract 0 (s.size - 4)) = s
    · have H : Hid (Pl.ungOut s = s.extract 0 (s.size - 4) ∧ Pl.ungErr s = 0) := ⟨by unfold Pl.ungOut; rw [if_neg h4]; exact if_pos he, by unfold Pl.ungErr; rw [if_neg h4]; exact if_pos he⟩
      have HE : Hid (Pl.guardOf (s.extract 0 (s.size - 4)) = s) := he
      clear he
      go_enter Tryd.func35, Tryd.ntmps35
      go_wp2_with fail
      refine (refGuard_any (s.extract 0 (s.size - 4)) _ HB.out).mono ?_
      rintro e w' ⟨rfl, hb⟩
      rw [HE.out]
      go_wp2
      go_ret2
      rw [H.out.1, H.out.2]
      exact ⟨rfl, hb⟩
    · have H : Hid (Pl.ungOut s = ⟨#[]⟩ ∧ Pl.ungErr s = 20) := ⟨by unfold Pl.ungOut; rw [if_neg h4]; exact if_neg he, by unfold Pl.ungErr; rw [if_neg h4]; exact if_neg he⟩
      have hne : ((Pl.guardOf (s.extract 0 (s.size - 4))).toList == s.toList) = false := by
        rw [ByteArray.toList_eq, ByteArray.toList_eq, beq_eq_false_iff_ne]
        exact fun h => he (Go.WideShapes.bytes_inj h)
      generalize hg : Pl.guardOf (s.extract 0 (s.size - 4)) = g at *
      have HG : Hid (Pl.guardOf (s.extract 0 (s.size - 4)) = g) := hg
      clear hg he
      go_enter Tryd.func35, Tryd.ntmps35
      go_wp2_with fail
      refine (refGuard_any (s.extract 0 (s.size - 4)) _ HB.out).mono ?_
      rintro e w' ⟨rfl, hb⟩
      rw [HG.out]
      go_wp2
      go_ret2
      rw [H.out.1, H.out.2]
      exact ⟨rfl, hb⟩

theorem ung_guard (s : ByteArray) : Pl.ungOut (Pl.guardOf s) = s ∧ Pl.ungErr (Pl.guardOf s) = 0 := by
  have h4 : ¬ (Pl.guardOf s).size < 4 := by rw [Pl.guardOf_size]; omega
  have hb : Pl.body (Pl.guardOf s) = s := by
    unfold Pl.body
    rw [Pl.guardOf_size, Nat.add_sub_cancel, Pl.guardOf]
    apply ByteArray.ext
    apply Array.ext'
    rw [ByteArray.data_extract, ByteArray.data_append]
    rw [Array.toList_extract, Array.toList_append]
    unfold List.extract
    rw [List.drop_zero, Nat.sub_zero]
    exact List.take_left' (Array.length_toList)
  constructor
  · unfold Pl.ungOut; rw [if_neg h4, hb]; exact if_pos rfl
  · unfold Pl.ungErr; rw [if_neg h4, hb]; exact if_pos rfl
end Go.Proofs.YtlmoibicepppmaaDoor.Po
