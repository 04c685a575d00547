/-
  Plain facts on packing (no program): which fields are none, and their bytes.
-/
import Derived.Test.YtlmoibicepppmaaDoorPlain
import Derived.Deep.AppendSrc
namespace Go.Proofs.YtlmoibicepppmaaDoor
set_option maxRecDepth 100000
namespace Pl

def badAt (last : Int) (x : Int × ByteArray) : Int := if x.1 < 1 ∨ 255 < x.1 then 1 else if 65535 < x.2.size then 2 else if x.1 < last then 11 else 0
def packErr : Int → List (Int × ByteArray) → Int
  | _, [] => 0
  | last, x :: l => if badAt last x = 0 then packErr x.1 l else badAt last x
def encOne (x : Int × ByteArray) : List UInt8 := [UInt8.ofNat x.1.toNat, UInt8.ofNat (x.2.size / 256), UInt8.ofNat (x.2.size % 256)] ++ x.2.data.toList
def encs (l : List (Int × ByteArray)) : List UInt8 := l.flatMap encOne
def packOut (l : List (Int × ByteArray)) : ByteArray := if packErr 1 l = 0 then txt (encs l) else txt []

def lastAt (last : Int) (l : List (Int × ByteArray)) (k : Nat) : Int := if k = 0 then last else (l.getD (k - 1) (0, .empty)).1
def okTo (last : Int) (l : List (Int × ByteArray)) (k : Nat) : Prop := ∀ i, i < k → i < l.length → badAt (lastAt last l i) (l.getD i (0, .empty)) = 0

theorem lastAt_cons (last : Int) (x : Int × ByteArray) (l : List (Int × ByteArray)) (k : Nat) : lastAt last (x :: l) (k + 1) = lastAt x.1 l k := by
  unfold lastAt
  match k with
  | 0 => simp
  | k + 1 => simp

theorem packErr_at : ∀ (l : List (Int × ByteArray)) (last : Int) (k : Nat), k < l.length → okTo last l k → badAt (lastAt last l k) (l.getD k (0, .empty)) ≠ 0 → packErr last l = badAt (lastAt last l k) (l.getD k (0, .empty))
  | [], _, k, hk, _, _ => by simp at hk
  | x :: l, last, 0, _, _, hb => by
    simp only [lastAt, List.getD_cons_zero, if_true] at hb ⊢
    simp only [packErr, if_neg hb]
  | x :: l, last, k + 1, hk, hok, hb => by
    have h0 := hok 0 (by omega) (by simp)
    simp only [lastAt, List.getD_cons_zero, if_true] at h0
    rw [lastAt_cons, List.getD_cons_succ] at hb ⊢
    simp only [packErr, if_pos h0]
    refine packErr_at l x.1 k (by simpa using hk) (fun i hi hl => ?_) hb
    have := hok (i + 1) (by omega) (by simpa using hl)
    rwa [lastAt_cons, List.getD_cons_succ] at this

theorem packErr_ok : ∀ (l : List (Int × ByteArray)) (last : Int), okTo last l l.length → packErr last l = 0
  | [], _, _ => rfl
  | x :: l, last, hok => by
    have h0 := hok 0 (by simp) (by simp)
    simp only [lastAt, List.getD_cons_zero, if_true] at h0
    simp only [packErr, if_pos h0]
    refine packErr_ok l x.1 (fun i hi hl => ?_)
    have := hok (i + 1) (by simpa using hi) (by simpa using hl)
    rwa [lastAt_cons, List.getD_cons_succ] at this

theorem okTo_succ {last : Int} {l : List (Int × ByteArray)} {k : Nat} (h : okTo last l k) (hk : badAt (lastAt last l k) (l.getD k (0, .empty)) = 0) : okTo last l (k + 1) := by
  intro i hi hl
  by_cases e : i = k
  · subst e; exact hk
  · exact h i (by omega) hl
theorem lastAt_succ {last : Int} {l : List (Int × ByteArray)} {k : Nat} {x : Int × ByteArray} (h : l.getD k (0, .empty) = x) : lastAt last l (k + 1) = x.1 := by
  simp only [lastAt, Nat.add_sub_cancel, h]
  simp

theorem pack_bad {l : List (Int × ByteArray)} {k : Nat} {e la : Int} {x : Int × ByteArray} (hk : k < l.length) (hok : okTo 1 l k) (hl : lastAt 1 l k = la) (hx : l.getD k (0, .empty) = x) (hb : badAt la x = e) (he : e ≠ 0) : packOut l = txt [] ∧ packErr 1 l = e := by
  have h := packErr_at l 1 k hk hok (by rw [hl, hx, hb]; exact he)
  rw [hl, hx, hb] at h
  exact ⟨by rw [packOut, h, if_neg he], h⟩
theorem pack_fine {l : List (Int × ByteArray)} (hok : okTo 1 l l.length) : packOut l = txt (encs l) ∧ packErr 1 l = 0 := by
  have h := packErr_ok l 1 hok
  exact ⟨by rw [packOut, h, if_pos rfl], h⟩

def bcells (l : List UInt8) : List Value := l.map fun b => .int .u8 (b.toNat : Int)
theorem bcells_append (a b : List UInt8) : bcells (a ++ b) = bcells a ++ bcells b := by simp [bcells]
theorem bcells_length (a : List UInt8) : (bcells a).length = a.length := by simp [bcells]
theorem byteCells_eq (s : ByteArray) : byteCells s = bcells s.data.toList := rfl

theorem encs_take_succ {l : List (Int × ByteArray)} {k : Nat} {x : Int × ByteArray} (hk : k < l.length) (hx : l.getD k (0, .empty) = x) : encs (l.take (k + 1)) = encs (l.take k) ++ encOne x := by
  have : l.take (k + 1) = l.take k ++ [x] := by
    rw [List.take_succ_eq_append_getElem hk]; simp [List.getD, hk] at hx; rw [hx]
  rw [this]; simp [encs]
theorem encs_take_le (l : List (Int × ByteArray)) (k : Nat) : (encs (l.take k)).length ≤ (encs l).length := by
  have e : encs (l.take k ++ l.drop k) = encs (l.take k) ++ encs (l.drop k) := by unfold encs; rw [List.flatMap_append]
  rw [List.take_append_drop] at e
  rw [e]; simp
theorem encOne_length (x : Int × ByteArray) : (encOne x).length = 3 + x.2.size := by
  simp only [encOne, List.length_append, List.length_cons, List.length_nil, Array.length_toList]; rfl
theorem encOne_cells (t : Int) (s : ByteArray) (h1 : 1 ≤ t) (h2 : t ≤ 255) (h3 : s.size ≤ 65535) :
    bcells (encOne (t, s)) = [.int .u8 t, .int .u8 ((s.size : Int) / 256), .int .u8 ((s.size : Int) % 256)] ++ byteCells s := by
  have e1 : (UInt8.ofNat t.toNat).toNat = t.toNat := by rw [UInt8.toNat_ofNat']; omega
  have e2 : (UInt8.ofNat (s.size / 256)).toNat = s.size / 256 := by rw [UInt8.toNat_ofNat']; omega
  have e3 : (UInt8.ofNat (s.size % 256)).toNat = s.size % 256 := by rw [UInt8.toNat_ofNat']; omega
  rw [encOne, bcells_append, ← byteCells_eq]
  simp only [bcells, List.map_cons, List.map_nil, e1, e2, e3]
  congr 2
  congr 1
  omega
end Pl
end Go.Proofs.YtlmoibicepppmaaDoor
