/-
  The texts Plain, PlainP, PlainU, PlainK, PlainB, PGuard, WPlain, Num, as one.
-/
import Derived.WalkKit
import Derived.Deep.AppendSrc
import Derived.Lib.IndexBytes
import Derived.Laws.BitsAllLaws
import Derived.Laws.BytesArg
import Derived.Test.YtkdhbjmpjbdobaaGreatDoorChecked
import Derived.WalkSpells
import Derived.WalkLawsBesides
import Derived.Deep.OwnRows
import Derived.ProofKit
import Derived.Test.YtkdhbjmpjbdobaaGreatDoorM2
/- Plain -/
namespace Go.Proofs.YtkdhbjmpjbdobaaGreatDoor
set_option maxRecDepth 100000
namespace Pl

/-- The last k bytes of m, big end first. -/
def digits (k m : Nat) : List UInt8 := (List.range k).map fun j => UInt8.ofNat (m / 256 ^ (k - 1 - j) % 256)

theorem digits_zero (m : Nat) : digits 0 m = [] := rfl
theorem digits_length (k m : Nat) : (digits k m).length = k := by simp [digits]
theorem digits_succ (k m : Nat) : digits (k + 1) m = UInt8.ofNat (m / 256 ^ k % 256) :: digits k m := by
  unfold digits
  rw [List.range_succ_eq_map, List.map_cons, List.map_map]
  congr 1
  apply List.map_congr_left
  intro j hj
  have := List.mem_range.1 hj
  simp only [Function.comp, Nat.succ_eq_add_one]
  rw [show k + 1 - 1 - (j + 1) = k - 1 - j from by omega]

def txt (l : List UInt8) : ByteArray := ⟨l.toArray⟩
theorem txt_toList (s : ByteArray) : txt s.data.toList = s := by cases s; simp [txt]
theorem txt_data (l : List UInt8) : (txt l).data.toList = l := by simp [txt]
theorem txt_size (l : List UInt8) : (txt l).size = l.length := by simp [txt, ByteArray.size]
theorem txt_append (a b : List UInt8) : txt a ++ txt b = txt (a ++ b) := ByteArray.mk_append_mk a b

/-- What Num answers: the text, and the error's number. -/
def numBad (n size : Int) : Bool := decide (size < 1 ∨ 8 < size ∨ n < 0) || decide (n.toNat / 256 ^ size.toNat ≠ 0)
def numOut (n size : Int) : ByteArray := if numBad n size then txt [] else txt (digits size.toNat n.toNat)
def numErr (n size : Int) : Int := if numBad n size then 1 else 0

theorem div_step (n : Int) (k : Nat) : (((n.toNat / 256 ^ k : Nat) : Int)) / 256 = ((n.toNat / 256 ^ (k + 1) : Nat) : Int) := by
  rw [Nat.pow_succ, ← Nat.div_div_eq_div_mul]; omega

/-- The number that bytes are. -/
def numOf (l : List UInt8) : Nat := l.foldl (fun n b => 256 * n + b.toNat) 0
theorem numOf_snoc (l : List UInt8) (b : UInt8) : numOf (l ++ [b]) = 256 * numOf l + b.toNat := by simp [numOf]
theorem numOf_lt_acc (l : List UInt8) : ∀ a : Nat, l.foldl (fun n b => 256 * n + b.toNat) a < (a + 1) * 256 ^ l.length := by
  induction l with
  | nil => intro a; simp
  | cons b l ih =>
    intro a
    have h := ih (256 * a + b.toNat)
    have hb := b.toNat_lt
    rw [List.foldl_cons, List.length_cons]
    have h2 : (256 * a + b.toNat + 1) * 256 ^ l.length ≤ (256 * (a + 1)) * 256 ^ l.length := Nat.mul_le_mul_right _ (by omega)
    have h3 : (256 * (a + 1)) * 256 ^ l.length = (a + 1) * 256 ^ (l.length + 1) := by rw [Nat.pow_succ, Nat.mul_comm 256 (a + 1), Nat.mul_assoc, Nat.mul_comm 256]
    omega
theorem numOf_lt (l : List UInt8) : numOf l < 256 ^ l.length := by have := numOf_lt_acc l 0; simpa [numOf] using this
def sNum (s : ByteArray) : Bool := decide (s.size < 1 ∨ 8 < s.size)
def fNum (s : ByteArray) : Bool := decide (s.size = 8) && decide (128 ≤ (s.data.toList.headD 0).toNat)
def numVal (s : ByteArray) : Int := if sNum s || fNum s then 0 else numOf s.data.toList
def numberErr (s : ByteArray) : Int := if sNum s then 1 else if fNum s then 4 else 0

end Pl
end Go.Proofs.YtkdhbjmpjbdobaaGreatDoor
/- PlainP -/
namespace Go.Proofs.YtkdhbjmpjbdobaaGreatDoor
set_option maxRecDepth 100000
namespace Pl

def badAt (last : Int) (x : Int × ByteArray) : Int := if x.1 < 1 ∨ 255 < x.1 then 1 else if 65535 < x.2.size then 2 else if x.1 < last then 11 else 0
def packErr : Int → List (Int × ByteArray) → Int
  | _, [] => 0
  | last, x :: l => if badAt last x = 0 then packErr x.1 l else badAt last x
def encOne (x : Int × ByteArray) : List UInt8 := [UInt8.ofNat x.1.toNat, UInt8.ofNat (x.2.size / 256), UInt8.ofNat (x.2.size % 256)] ++ x.2.data.toList
def encs (l : List (Int × ByteArray)) : List UInt8 := l.flatMap encOne
def packOut (l : List (Int × ByteArray)) : ByteArray := if packErr 1 l = 0 then txt (encs l) else txt []

def lastAt (last : Int) (l : List (Int × ByteArray)) (k : Nat) : Int := if k = 0 then last else (l.getD (k - 1) (0, .empty)).1
def okTo (last : Int) (l : List (Int × ByteArray)) (k : Nat) : Prop := ∀ i, i < k → i < l.length → badAt (lastAt last l i) (l.getD i (0, .empty)) = 0

theorem lastAt_cons (last : Int) (x : Int × ByteArray) (l : List (Int × ByteArray)) (k : Nat) : lastAt last (x :: l) (k + 1) = lastAt x.1 l k := by
  unfold lastAt
  match k with
  | 0 => simp
  | k + 1 => simp

theorem packErr_at : ∀ (l : List (Int × ByteArray)) (last : Int) (k : Nat), k < l.length → okTo last l k → badAt (lastAt last l k) (l.getD k (0, .empty)) ≠ 0 → packErr last l = badAt (lastAt last l k) (l.getD k (0, .empty))
  | [], _, k, hk, _, _ => by simp at hk
  | x :: l, last, 0, _, _, hb => by
    simp only [lastAt, List.getD_cons_zero, if_true] at hb ⊢
    simp only [packErr, if_neg hb]
  | x :: l, last, k + 1, hk, hok, hb => by
    have h0 := hok 0 (by omega) (by simp)
    simp only [lastAt, List.getD_cons_zero, if_true] at h0
    rw [lastAt_cons, List.getD_cons_succ] at hb ⊢
    simp only [packErr, if_pos h0]
    refine packErr_at l x.1 k (by simpa using hk) (fun i hi hl => ?_) hb
    have := hok (i + 1) (by omega) (by simpa using hl)
    rwa [lastAt_cons, List.getD_cons_succ] at this

theorem packErr_ok : ∀ (l : List (Int × ByteArray)) (last : Int), okTo last l l.length → packErr last l = 0
  | [], _, _ => rfl
  | x :: l, last, hok => by
    have h0 := hok 0 (by simp) (by simp)
    simp only [lastAt, List.getD_cons_zero, if_true] at h0
    simp only [packErr, if_pos h0]
    refine packErr_ok l x.1 (fun i hi hl => ?_)
    have := hok (i + 1) (by simpa using hi) (by simpa using hl)
    rwa [lastAt_cons, List.getD_cons_succ] at this

theorem okTo_succ {last : Int} {l : List (Int × ByteArray)} {k : Nat} (h : okTo last l k) (hk : badAt (lastAt last l k) (l.getD k (0, .empty)) = 0) : okTo last l (k + 1) := by
  intro i hi hl
  by_cases e : i = k
  · subst e; exact hk
  · exact h i (by omega) hl
theorem lastAt_succ {last : Int} {l : List (Int × ByteArray)} {k : Nat} {x : Int × ByteArray} (h : l.getD k (0, .empty) = x) : lastAt last l (k + 1) = x.1 := by
  simp only [lastAt, Nat.add_sub_cancel, h]
  simp

theorem pack_bad {l : List (Int × ByteArray)} {k : Nat} {e la : Int} {x : Int × ByteArray} (hk : k < l.length) (hok : okTo 1 l k) (hl : lastAt 1 l k = la) (hx : l.getD k (0, .empty) = x) (hb : badAt la x = e) (he : e ≠ 0) : packOut l = txt [] ∧ packErr 1 l = e := by
  have h := packErr_at l 1 k hk hok (by rw [hl, hx, hb]; exact he)
  rw [hl, hx, hb] at h
  exact ⟨by rw [packOut, h, if_neg he], h⟩
theorem pack_fine {l : List (Int × ByteArray)} (hok : okTo 1 l l.length) : packOut l = txt (encs l) ∧ packErr 1 l = 0 := by
  have h := packErr_ok l 1 hok
  exact ⟨by rw [packOut, h, if_pos rfl], h⟩

def bcells (l : List UInt8) : List Value := l.map fun b => .int .u8 (b.toNat : Int)
theorem bcells_append (a b : List UInt8) : bcells (a ++ b) = bcells a ++ bcells b := by simp [bcells]
theorem bcells_length (a : List UInt8) : (bcells a).length = a.length := by simp [bcells]
theorem byteCells_eq (s : ByteArray) : byteCells s = bcells s.data.toList := rfl

theorem encs_take_succ {l : List (Int × ByteArray)} {k : Nat} {x : Int × ByteArray} (hk : k < l.length) (hx : l.getD k (0, .empty) = x) : encs (l.take (k + 1)) = encs (l.take k) ++ encOne x := by
  have : l.take (k + 1) = l.take k ++ [x] := by
    rw [List.take_succ_eq_append_getElem hk]; simp [List.getD, hk] at hx; rw [hx]
  rw [this]; simp [encs]
theorem encs_take_le (l : List (Int × ByteArray)) (k : Nat) : (encs (l.take k)).length ≤ (encs l).length := by
  have e : encs (l.take k ++ l.drop k) = encs (l.take k) ++ encs (l.drop k) := by unfold encs; rw [List.flatMap_append]
  rw [List.take_append_drop] at e
  rw [e]; simp
theorem encOne_length (x : Int × ByteArray) : (encOne x).length = 3 + x.2.size := by
  simp only [encOne, List.length_append, List.length_cons, List.length_nil, Array.length_toList]; rfl
theorem encOne_cells (t : Int) (s : ByteArray) (h1 : 1 ≤ t) (h2 : t ≤ 255) (h3 : s.size ≤ 65535) :
    bcells (encOne (t, s)) = [.int .u8 t, .int .u8 ((s.size : Int) / 256), .int .u8 ((s.size : Int) % 256)] ++ byteCells s := by
  have e1 : (UInt8.ofNat t.toNat).toNat = t.toNat := by rw [UInt8.toNat_ofNat']; omega
  have e2 : (UInt8.ofNat (s.size / 256)).toNat = s.size / 256 := by rw [UInt8.toNat_ofNat']; omega
  have e3 : (UInt8.ofNat (s.size % 256)).toNat = s.size % 256 := by rw [UInt8.toNat_ofNat']; omega
  rw [encOne, bcells_append, ← byteCells_eq]
  simp only [bcells, List.map_cons, List.map_nil, e1, e2, e3]
  congr 2
  congr 1
  omega
end Pl
end Go.Proofs.YtkdhbjmpjbdobaaGreatDoor
/- PlainU -/
namespace Go.Proofs.YtkdhbjmpjbdobaaGreatDoor
set_option maxRecDepth 100000
namespace Pl

def tagOf (l : List UInt8) : Int := (l.getD 0 0).toNat
def lenOf (l : List UInt8) : Nat := 256 * (l.getD 1 0).toNat + (l.getD 2 0).toNat
def stepErr (last : Int) (l : List UInt8) : Int := if l.length < 3 then 10 else if tagOf l = 0 then 4 else if tagOf l < last then 11 else if l.length - 3 < lenOf l then 10 else 0
def fieldOf (l : List UInt8) : Int × ByteArray := (tagOf l, txt ((l.drop 3).take (lenOf l)))
def join (d : List (Int × ByteArray)) (r : List (Int × ByteArray) × Int) : List (Int × ByteArray) × Int := if r.2 = 0 then (d ++ r.1, 0) else ([], r.2)
def parse : Nat → Int → List UInt8 → List (Int × ByteArray) × Int
  | 0, _, _ => ([], 0)
  | f + 1, last, l => if l = [] then ([], 0) else if stepErr last l = 0 then join [fieldOf l] (parse f (tagOf l) (l.drop (3 + lenOf l))) else ([], stepErr last l)
def unpOut (l : List UInt8) : List (Int × ByteArray) := (parse l.length 1 l).1
def unpErr (l : List UInt8) : Int := (parse l.length 1 l).2

theorem join_join (d e : List (Int × ByteArray)) (r : List (Int × ByteArray) × Int) : join d (join e r) = join (d ++ e) r := by
  unfold join
  by_cases h : r.2 = 0
  · simp [h]
  · simp [h]
theorem parse_nil (f : Nat) (last : Int) : parse f last [] = ([], 0) := by
  cases f <;> simp [parse]

/-- On the way: the fields that are done, the last tag, the bytes that are left. -/
def Mid (l0 : List UInt8) (done : List (Int × ByteArray)) (last : Int) (rest : List UInt8) : Prop :=
  done.length * 3 + rest.length ≤ l0.length ∧ ∃ f, rest.length ≤ f ∧ parse l0.length 1 l0 = join done (parse f last rest)

theorem join_nil (r : List (Int × ByteArray) × Int) (h : r.2 ≠ 0 → r.1 = []) : join [] r = r := by
  unfold join
  by_cases h0 : r.2 = 0
  · rw [if_pos h0, List.nil_append, ← h0]
  · rw [if_neg h0, ← h h0]
theorem parse_err_nil : ∀ (f : Nat) (last : Int) (l : List UInt8), (parse f last l).2 ≠ 0 → (parse f last l).1 = []
  | 0, _, _, h => by simp [parse] at h
  | f + 1, last, l, h => by
    unfold parse at h ⊢
    by_cases h1 : l = []
    · simp [h1] at h
    · simp only [if_neg h1] at h ⊢
      by_cases h2 : stepErr last l = 0
      · simp only [if_pos h2] at h ⊢
        unfold join at h ⊢
        by_cases h3 : (parse f (tagOf l) (l.drop (3 + lenOf l))).2 = 0
        · simp [h3] at h
        · simp [h3]
      · simp [h2]
theorem Mid.start (l : List UInt8) : Mid l [] 1 l :=
  ⟨by simp, l.length, Nat.le_refl _, (join_nil _ (parse_err_nil _ _ _)).symm⟩
theorem Mid.finish {l0 : List UInt8} {done : List (Int × ByteArray)} {last : Int} (h : Mid l0 done last []) : unpOut l0 = done ∧ unpErr l0 = 0 := by
  obtain ⟨_, f, _, e⟩ := h
  rw [parse_nil] at e
  unfold unpOut unpErr
  rw [e]
  simp [join]
theorem Mid.fail {l0 : List UInt8} {done : List (Int × ByteArray)} {last : Int} {rest : List UInt8} {e : Int} (h : Mid l0 done last rest) (hr : rest ≠ []) (hs : stepErr last rest = e) (he : e ≠ 0) : unpOut l0 = [] ∧ unpErr l0 = e := by
  obtain ⟨_, f, hf, eq⟩ := h
  match f, hf with
  | 0, hf => exact absurd (List.eq_nil_of_length_eq_zero (by omega)) hr
  | f + 1, _ =>
    have hp : parse (f + 1) last rest = ([], e) := by
      unfold parse
      rw [if_neg hr, hs, if_neg he]
    rw [hp] at eq
    unfold unpOut unpErr
    rw [eq]
    simp [join, he]
theorem Mid.step {l0 : List UInt8} {done : List (Int × ByteArray)} {last : Int} {rest : List UInt8} (h : Mid l0 done last rest) (hr : rest ≠ []) (hs : stepErr last rest = 0) :
    Mid l0 (done ++ [fieldOf rest]) (tagOf rest) (rest.drop (3 + lenOf rest)) := by
  obtain ⟨hl, f, hf, eq⟩ := h
  match f, hf with
  | 0, hf => exact absurd (List.eq_nil_of_length_eq_zero (by omega)) hr
  | f + 1, hf =>
    have h3 : ¬ rest.length < 3 := by
      intro h
      simp [stepErr, h] at hs
    refine ⟨by simp only [List.length_append, List.length_cons, List.length_nil, List.length_drop]; omega, f, by simp only [List.length_drop]; omega, ?_⟩
    rw [eq, ← join_join]
    congr 1
    conv => lhs; unfold parse
    rw [if_neg hr, if_pos hs]

theorem getD_at (s : ByteArray) (i : Nat) (h : i < s.size) : s.data.toList.getD i 0 = s[i] := by
  have h2 : i < s.data.toList.length := by simpa using h
  simp only [List.getD, List.getElem?_eq_getElem h2, Option.getD_some]
  simp
  rfl
theorem getD_drop (l : List UInt8) (a i : Nat) : (l.drop a).getD i 0 = l.getD (a + i) 0 := by
  simp [List.getD]
theorem extract_txt (s : ByteArray) (a b : Nat) : s.extract a b = txt ((s.data.toList.drop a).take (b - a)) := by
  apply ByteArray.ext
  apply Array.ext'
  rw [ByteArray.data_extract]
  simp [txt, List.extract]
end Pl
end Go.Proofs.YtkdhbjmpjbdobaaGreatDoor
/- PlainK -/
namespace Go.Proofs.YtkdhbjmpjbdobaaGreatDoor
set_option maxRecDepth 100000
namespace Pl

theorem badAt_zero {last : Int} {x : Int × ByteArray} (h : badAt last x = 0) : 1 ≤ x.1 ∧ x.1 ≤ 255 ∧ x.2.size ≤ 65535 ∧ last ≤ x.1 := by
  unfold badAt at h
  split at h
  · cases h
  · split at h
    · cases h
    · split at h
      · cases h
      · omega

theorem parse_encs : ∀ (l : List (Int × ByteArray)) (last : Int) (f : Nat), packErr last l = 0 → (encs l).length ≤ f → parse f last (encs l) = (l, 0)
  | [], last, f, _, _ => parse_nil f last
  | x :: l, last, f, hp, hf => by
    have hb : badAt last x = 0 := by
      unfold packErr at hp
      split at hp
      · assumption
      · exact hp
    have hp' : packErr x.1 l = 0 := by
      unfold packErr at hp
      rwa [if_pos hb] at hp
    obtain ⟨h1, h2, h3, h4⟩ := badAt_zero hb
    obtain ⟨t, s⟩ := x
    simp only at h1 h2 h3 h4 hp'
    have e : encs ((t, s) :: l) = UInt8.ofNat t.toNat :: UInt8.ofNat (s.size / 256) :: UInt8.ofNat (s.size % 256) :: (s.data.toList ++ encs l) := by simp [encs, encOne]
    have hsl : s.data.toList.length = s.size := by simp
    have hlen : (encs ((t, s) :: l)).length = 3 + s.size + (encs l).length := by
      rw [e]; simp only [List.length_cons, List.length_append, hsl]; omega
    rw [hlen] at hf
    have et : tagOf (encs ((t, s) :: l)) = t := by
      rw [e, tagOf, List.getD_cons_zero, UInt8.toNat_ofNat']; omega
    have el : lenOf (encs ((t, s) :: l)) = s.size := by
      rw [e, lenOf, List.getD_cons_succ, List.getD_cons_zero, List.getD_cons_succ, List.getD_cons_succ, List.getD_cons_zero, UInt8.toNat_ofNat', UInt8.toNat_ofNat']; omega
    have ef : fieldOf (encs ((t, s) :: l)) = (t, s) := by
      unfold fieldOf
      rw [et, el, e]
      simp only [List.drop_succ_cons, List.drop_zero]
      rw [List.take_append_of_le_length (by omega), List.take_of_length_le (by omega), txt_toList]
    have ed : (encs ((t, s) :: l)).drop (3 + lenOf (encs ((t, s) :: l))) = encs l := by
      rw [el, ← List.drop_drop, e]
      simp only [List.drop_succ_cons, List.drop_zero]
      rw [← hsl, List.drop_left]
    have es : stepErr last (encs ((t, s) :: l)) = 0 := by
      unfold stepErr
      rw [et, el, hlen, if_neg (by omega), if_neg (by omega), if_neg (by omega), if_neg (by omega)]
    match f, hf with
    | 0, hf => omega
    | f + 1, hf =>
      unfold parse
      rw [if_neg (by rw [e]; simp), if_pos es, ed, ef, et, parse_encs l t f hp' (by omega)]
      simp [join]

theorem unp_encs (l : List (Int × ByteArray)) (h : packErr 1 l = 0) : unpOut (encs l) = l ∧ unpErr (encs l) = 0 := by
  unfold unpOut unpErr
  rw [parse_encs l 1 _ h (Nat.le_refl _)]
  exact ⟨rfl, rfl⟩
end Pl
end Go.Proofs.YtkdhbjmpjbdobaaGreatDoor
/- PlainB -/
namespace Go.Proofs.YtkdhbjmpjbdobaaGreatDoor
set_option maxRecDepth 100000
namespace Pl

theorem numOf_cons_lt (b : UInt8) (l : List UInt8) : numOf (b :: l) < (b.toNat + 1) * 256 ^ l.length := by
  have := numOf_lt_acc l b.toNat
  simpa [numOf] using this
theorem numOf_take_lt (l : List UInt8) (k : Nat) (h8 : l.length ≤ 8) (hh : l.length = 8 → (l.headD 0).toNat < 128) (hk : k < l.length) : numOf (l.take k) < 36028797018963968 := by
  by_cases h7 : k ≤ 6
  · have h1 := numOf_lt (l.take k)
    have h2 : (l.take k).length = k := by simp; omega
    rw [h2] at h1
    have h3 : 256 ^ k ≤ 256 ^ 6 := Nat.pow_le_pow_right (by decide) h7
    have h4 : (256 : Nat) ^ 6 < 36028797018963968 := by decide
    omega
  · have hk7 : k = 7 := by omega
    subst hk7
    match l, h8, hh, hk with
    | b :: r, h8, hh, hk =>
      have hb := hh (by simp at h8 hk ⊢; omega)
      have h1 := numOf_cons_lt b (r.take 6)
      have h2 : (r.take 6).length = 6 := by simp at hk ⊢; omega
      rw [h2] at h1
      simp only [List.headD_cons] at hb
      have h3 : (256 : Nat) ^ 6 = 281474976710656 := by decide
      rw [h3] at h1
      show numOf (b :: r.take 6) < _
      omega
theorem take_snoc (s : ByteArray) (k : Nat) (h : k < s.size) : s.data.toList.take (k + 1) = s.data.toList.take k ++ [s[k]] := by
  rw [List.take_succ_eq_append_getElem (by simpa using h)]; rfl
theorem numOf_take_succ (s : ByteArray) (k : Nat) (h : k < s.size) : numOf (s.data.toList.take (k + 1)) = 256 * numOf (s.data.toList.take k) + s[k].toNat := by
  rw [take_snoc s k h, numOf_snoc]
theorem wrap_i64_small (n : Nat) (h : n < 9223372036854775808) : IntKind.i64.wrap (n : Int) = (n : Int) := by
  have e : (n : Int) % 2 ^ 64 = n := Int.emod_eq_of_lt (by omega) (by omega)
  simp only [IntKind.wrap, IntKind.bits, IntKind.signed, e]
  rw [if_neg]
  simp
  omega
theorem or_byte (x : Nat) (b : UInt8) (hx : x < 36028797018963968) : bits .or .i64 ((x : Int) * 256) (b.toNat : Int) = 256 * (x : Int) + (b.toNat : Int) := by
  have hb := b.toNat_lt
  have e : (x : Int) * 256 = ((256 * x : Nat) : Int) := by omega
  rw [e]
  show IntKind.i64.wrap ((BitVec.ofInt 64 ((256 * x : Nat) : Int) ||| BitVec.ofInt 64 ((b.toNat : Nat) : Int)).toNat : Int) = _
  rw [BitVec.toNat_or, ofInt_u64 (256 * x) (by omega), ofInt_u64 b.toNat (by omega), nat_join 8 (256 * x) b.toNat (by omega) (by omega), wrap_i64_small _ (by omega)]
  omega
end Pl
end Go.Proofs.YtkdhbjmpjbdobaaGreatDoor
/- PGuard -/
namespace Go.Proofs.YtkdhbjmpjbdobaaGreatDoor.Po
open Go.ChangeShapes Go.WideShapes Go.ChangeAt Go.RowKit
set_option maxRecDepth 100000

namespace Pl
def txt (l : List UInt8) : ByteArray := ⟨l.toArray⟩
theorem txt_size (l : List UInt8) : (txt l).size = l.length := by simp [txt, ByteArray.size]
def tail4 (c : Nat) : ByteArray := txt [UInt8.ofNat (c % 256), UInt8.ofNat (c / 256 % 256), UInt8.ofNat (c / 65536 % 256), UInt8.ofNat (c / 16777216 % 256)]
def guardOf (s : ByteArray) : ByteArray := s ++ tail4 (crc s.data.toList)
theorem tail4_size (c : Nat) : (tail4 c).size = 4 := by simp [tail4, txt_size]
theorem guardOf_size (s : ByteArray) : (guardOf s).size = s.size + 4 := by rw [guardOf, ByteArray.size_append, tail4_size]
end Pl

theorem Tab.pos {w : World} (h : Tab w) : 0 < w.heap.size := by
  have h0 := h 0 (by decide)
  rcases Nat.eq_zero_or_pos w.heap.size with h' | h'
  · have : w.heap[0]? = none := Array.getElem?_eq_none (by omega)
    simp [World.cell?, this] at h0
  · exact h'
theorem Tab.below {w w' : World} (h : Tab w) (hb : Below w.heap.size w w') : Tab w' := fun j hj => by
  rw [hb.cell (p := ⟨0, j, none⟩) h.pos]
  exact h j hj

theorem conv_four (W : World) (b : Nat) (x0 x1 x2 x3 : Int) (h0 : W.cell? ⟨b, 0, none⟩ = some (.int .u8 x0)) (h1 : W.cell? ⟨b, 1, none⟩ = some (.int .u8 x1)) (h2 : W.cell? ⟨b, 2, none⟩ = some (.int .u8 x2)) (h3 : W.cell? ⟨b, 3, none⟩ = some (.int .u8 x3)) :
    (convert 167 9 (.slice (some ⟨b, 0, none⟩) 4 4)).run Tryz.prog W = .ok (.string (Pl.txt ([x0, x1, x2, x3].map fun n => UInt8.ofNat n.toNat))) W :=
  run_convert_bytes_arg W 167 5 Tryz.underlying167 Tryz.underlying5 b 0 4 4 [x0, x1, x2, x3] rfl (fun i hi => by
    rw [Nat.zero_add]
    match i, hi with
    | 0, _ => simpa using h0
    | 1, _ => simpa using h1
    | 2, _ => simpa using h2
    | 3, _ => simpa using h3) 9 Tryz.underlying9

theorem conv_tail (w : World) (c : Nat) (hc : c < 4294967296) :
    (convert 167 9 (.slice (some ⟨w.heap.size, 0, none⟩) 4 4)).run Tryz.prog (w.alloc (.cells #[.int .u8 ((c : Int) % 256), .int .u8 ((c : Int) / 256 % 256), .int .u8 ((c : Int) / 65536 % 256), .int .u8 ((c : Int) / 16777216)] 5)) =
      .ok (.string (Pl.tail4 c)) (w.alloc (.cells #[.int .u8 ((c : Int) % 256), .int .u8 ((c : Int) / 256 % 256), .int .u8 ((c : Int) / 65536 % 256), .int .u8 ((c : Int) / 16777216)] 5)) := by
  have h := conv_four (w.alloc (.cells #[.int .u8 ((c : Int) % 256), .int .u8 ((c : Int) / 256 % 256), .int .u8 ((c : Int) / 65536 % 256), .int .u8 ((c : Int) / 16777216)] 5)) w.heap.size ((c : Int) % 256) ((c : Int) / 256 % 256) ((c : Int) / 65536 % 256) ((c : Int) / 16777216) (by simp) (by simp) (by simp) (by simp)
  rw [h]
  congr 3
  simp only [List.map_cons, List.map_nil]
  rw [show ((c : Int) % 256).toNat = c % 256 from by omega, show ((c : Int) / 256 % 256).toNat = c / 256 % 256 from by omega, show ((c : Int) / 65536 % 256).toNat = c / 65536 % 256 from by omega,
    show ((c : Int) / 16777216).toNat = c / 16777216 % 256 from by omega]

set_option maxHeartbeats 400000 in
theorem guard_any (s : ByteArray) (w : World) (hs : s.size ≤ 1125899906842624) (ht : Tab w) :
    Calls Tryz.prog 52 #[.string s] w fun e w' => e = .returned (.string (Pl.guardOf s)) ∧ Below w.heap.size w w' := by
  have HC : Hid (Pl.sums (0 ^^^ 4294967295) s.data.toList ^^^ 4294967295 = Pl.crc s.data.toList) := rfl
  have hc := Pl.crc_lt s.data.toList
  have HT : Hid (Tab w) := ht
  have HG : Hid (Pl.guardOf s = s ++ Pl.tail4 (Pl.crc s.data.toList)) := rfl
  have HS : Hid (s.size ≤ maxLen) := by show s.size ≤ maxLen; unfold maxLen; omega
  clear ht
  go_enter Tryz.func52, Tryz.ntmps52
  go_wp2_with fail
  refine (goOn_any 0 s _ (by decide) HS.out HT.out).mono ?_
  rintro e w' ⟨rfl, rfl⟩
  rw [HC.out]
  generalize Pl.crc s.data.toList = c at *
  have hcv := conv_tail w' c hc
  have hsz := Pl.tail4_size c
  have hl : ¬ 9223372036854775807 < s.size + 4 := by omega
  go_wp2
  go_ret
  rw [HG.out]
  exact ⟨rfl, (Below.refl _ _).alloc (Nat.le_refl _) _⟩

set_option maxHeartbeats 400000 in
theorem refGuard_any (s : ByteArray) (w : World) (hs : s.size ≤ 1125899906842624) :
    Calls Tryz.prog 96 #[.string s] w fun e w' => e = .returned (.string (Pl.guardOf s)) ∧ Below w.heap.size w w' := by
  have hc := Pl.crc_lt s.data.toList
  have HG : Hid (Pl.guardOf s = s ++ Pl.tail4 (Pl.crc s.data.toList)) := rfl
  have HS : Hid (s.size ≤ maxLen) := by show s.size ≤ maxLen; unfold maxLen; omega
  go_enter Tryz.func96, Tryz.ntmps96
  go_wp2_with fail
  refine (refSum_any s _ HS.out).mono ?_
  rintro e w' ⟨rfl, rfl⟩
  generalize Pl.crc s.data.toList = c at *
  have hcv := conv_tail w' c hc
  have hsz := Pl.tail4_size c
  have hl : ¬ 9223372036854775807 < s.size + 4 := by omega
  go_wp2
  go_ret
  rw [HG.out]
  exact ⟨rfl, (Below.refl _ _).alloc (Nat.le_refl _) _⟩

namespace Pl
def body (s : ByteArray) : ByteArray := s.extract 0 (s.size - 4)
def ungErr (s : ByteArray) : Int := if s.size < 4 then 10 else if guardOf (body s) = s then 0 else 20
def ungOut (s : ByteArray) : ByteArray := if s.size < 4 then ⟨#[]⟩ else if guardOf (body s) = s then body s else ⟨#[]⟩
end Pl

set_option maxHeartbeats 400000 in
theorem unguard_any (s : ByteArray) (w : World) (hs : s.size ≤ 1125899906842624) (ht : Tab w) :
    Calls Tryz.prog 120 #[.string s] w fun e w' => e = .returned (.tuple #[.string (Pl.ungOut s), .int .i64 (Pl.ungErr s)]) ∧ Below w.heap.size w w' := by
  have HT : Hid (Tab w) := ht
  clear ht
  by_cases h4 : s.size < 4
  · have H : Hid (Pl.ungOut s = ⟨#[]⟩ ∧ Pl.ungErr s = 10) := ⟨by simp [Pl.ungOut, h4], by simp [Pl.ungErr, h4]⟩
    go_enter Tryz.func120, Tryz.ntmps120
    go_wp2
    go_ret2
    rw [H.out.1, H.out.2]
    exact ⟨rfl, Below.refl _ _⟩
  · have HB : Hid ((s.extract 0 (s.size - 4)).size ≤ 1125899906842624) := by show _ ≤ _; rw [ByteArray.size_extract]; omega
    by_cases he : Pl.guardOf (s.extract 0 (s.size - 4)) = s
    · have H : Hid (Pl.ungOut s = s.extract 0 (s.size - 4) ∧ Pl.ungErr s = 0) := ⟨by unfold Pl.ungOut; rw [if_neg h4]; exact if_pos he, by unfold Pl.ungErr; rw [if_neg h4]; exact if_pos he⟩
      have HE : Hid (Pl.guardOf (s.extract 0 (s.size - 4)) = s) := he
      clear he
      go_enter Tryz.func120, Tryz.ntmps120
      go_wp2_with fail
      refine (guard_any (s.extract 0 (s.size - 4)) _ HB.out HT.out).mono ?_
      rintro e w' ⟨rfl, hb⟩
      rw [HE.out]
      go_wp2
      go_ret2
      rw [H.out.1, H.out.2]
      exact ⟨rfl, hb⟩
    · have H : Hid (Pl.ungOut s = ⟨#[]⟩ ∧ Pl.ungErr s = 20) := ⟨by unfold Pl.ungOut; rw [if_neg h4]; exact if_neg he, by unfold Pl.ungErr; rw [if_neg h4]; exact if_neg he⟩
      have hne : ((Pl.guardOf (s.extract 0 (s.size - 4))).toList == s.toList) = false := by
        rw [ByteArray.toList_eq, ByteArray.toList_eq, beq_eq_false_iff_ne]
        exact fun h => he (Go.WideShapes.bytes_inj h)
      generalize hg : Pl.guardOf (s.extract 0 (s.size - 4)) = g at *
      have HG : Hid (Pl.guardOf (s.extract 0 (s.size - 4)) = g) := hg
      clear hg he
      go_enter Tryz.func120, Tryz.ntmps120
      go_wp2_with fail
      refine (guard_any (s.extract 0 (s.size - 4)) _ HB.out HT.out).mono ?_
      rintro e w' ⟨rfl, hb⟩
      rw [HG.out]
      go_wp2
      go_ret2
      rw [H.out.1, H.out.2]
      exact ⟨rfl, hb⟩

set_option maxHeartbeats 400000 in
theorem refUnguard_any (s : ByteArray) (w : World) (hs : s.size ≤ 1125899906842624) :
    Calls Tryz.prog 60 #[.string s] w fun e w' => e = .returned (.tuple #[.string (Pl.ungOut s), .int .i64 (Pl.ungErr s)]) ∧ Below w.heap.size w w' := by
  by_cases h4 : s.size < 4
  · have H : Hid (Pl.ungOut s = ⟨#[]⟩ ∧ Pl.ungErr s = 10) := ⟨by simp [Pl.ungOut, h4], by simp [Pl.ungErr, h4]⟩
    go_enter Tryz.func60, Tryz.ntmps60
    go_wp2
    go_ret2
    rw [H.out.1, H.out.2]
    exact ⟨rfl, Below.refl _ _⟩
  · have HB : Hid ((s.extract 0 (s.size - 4)).size ≤ 1125899906842624) := by show _ ≤ _; rw [ByteArray.size_extract]; omega
    by_cases he : Pl.guardOf (s.extract 0 (s.size - 4)) = s
    · have H : Hid (Pl.ungOut s = s.extract 0 (s.size - 4) ∧ Pl.ungErr s = 0) := ⟨by unfold Pl.ungOut; rw [if_neg h4]; exact if_pos he, by unfold Pl.ungErr; rw [if_neg h4]; exact if_pos he⟩
      have HE : Hid (Pl.guardOf (s.extract 0 (s.size - 4)) = s) := he
      clear he
      go_enter Tryz.func60, Tryz.ntmps60
      go_wp2_with fail
      refine (refGuard_any (s.extract 0 (s.size - 4)) _ HB.out).mono ?_
      rintro e w' ⟨rfl, hb⟩
      rw [HE.out]
      go_wp2
      go_ret2
      rw [H.out.1, H.out.2]
      exact ⟨rfl, hb⟩
    · have H : Hid (Pl.ungOut s = ⟨#[]⟩ ∧ Pl.ungErr s = 20) := ⟨by unfold Pl.ungOut; rw [if_neg h4]; exact if_neg he, by unfold Pl.ungErr; rw [if_neg h4]; exact if_neg he⟩
      have hne : ((Pl.guardOf (s.extract 0 (s.size - 4))).toList == s.toList) = false := by
        rw [ByteArray.toList_eq, ByteArray.toList_eq, beq_eq_false_iff_ne]
        exact fun h => he (Go.WideShapes.bytes_inj h)
      generalize hg : Pl.guardOf (s.extract 0 (s.size - 4)) = g at *
      have HG : Hid (Pl.guardOf (s.extract 0 (s.size - 4)) = g) := hg
      clear hg he
      go_enter Tryz.func60, Tryz.ntmps60
      go_wp2_with fail
      refine (refGuard_any (s.extract 0 (s.size - 4)) _ HB.out).mono ?_
      rintro e w' ⟨rfl, hb⟩
      rw [HG.out]
      go_wp2
      go_ret2
      rw [H.out.1, H.out.2]
      exact ⟨rfl, hb⟩

theorem ung_guard (s : ByteArray) : Pl.ungOut (Pl.guardOf s) = s ∧ Pl.ungErr (Pl.guardOf s) = 0 := by
  have h4 : ¬ (Pl.guardOf s).size < 4 := by rw [Pl.guardOf_size]; omega
  have hb : Pl.body (Pl.guardOf s) = s := by
    unfold Pl.body
    rw [Pl.guardOf_size, Nat.add_sub_cancel, Pl.guardOf]
    apply ByteArray.ext
    apply Array.ext'
    rw [ByteArray.data_extract, ByteArray.data_append]
    rw [Array.toList_extract, Array.toList_append]
    unfold List.extract
    rw [List.drop_zero, Nat.sub_zero]
    exact List.take_left' (Array.length_toList)
  constructor
  · unfold Pl.ungOut; rw [if_neg h4, hb]; exact if_pos rfl
  · unfold Pl.ungErr; rw [if_neg h4, hb]; exact if_pos rfl
end Go.Proofs.YtkdhbjmpjbdobaaGreatDoor.Po
/- WPlain -/
namespace Go.Proofs.YtkdhbjmpjbdobaaGreatDoor
set_option maxRecDepth 100000
namespace Me
structure It where
  v : Int
  c : Int
  r : Int
  b : ByteArray
structure Mm where
  k : Int
  v : Int
  n : Int
  o : Int
  c : Int
  b : Int
  l : Int
  cl : Int
  lives : List Int
  items : List It
  mo : Int
  ms : Int
  mm : Int
  nu : Int
  d : ByteArray
def zero : Mm := ⟨0, 0, 0, 0, 0, 0, 0, 0, [], [], 0, 0, 0, 0, ⟨#[]⟩⟩
def bigB (x : Int) : Bool := decide (0 ≤ x ∧ x ≤ 1099511627776)
def okIt (x : It) : Bool := decide ((0 ≤ x.v ∧ x.v ≤ 1099511627776) ∧ (0 ≤ x.c ∧ x.c ≤ 1099511627776) ∧ (1 ≤ x.r ∧ x.r ≤ 1099511627776) ∧ x.b.size ≤ 4096)
def bigs (m : Mm) : List Int := [m.v, m.n, m.o, m.c, m.b, m.l, m.cl]
def livB (l : List Int) : Bool := decide (l.length = 0) || (decide (l.length ≤ 7) && (decide (l.length % 2 = 1) && l.all bigB))
def manZ (o s m : Int) : Bool := o == 0 && (s == 0 && m == 0)
def manR (o s m : Int) : Bool := decide ((0 ≤ o ∧ o ≤ 1099511627776) ∧ (1 ≤ s ∧ s ≤ 65535) ∧ (0 ≤ m ∧ m ≤ 4294967295))
def manB (o s m : Int) : Bool := manZ o s m || manR o s m
def kB (k : Int) : Bool := decide (1 ≤ k ∧ k ≤ 12)
def nB (n : Int) : Bool := decide (0 ≤ n ∧ n ≤ 65535)
def right (m : Mm) : Bool := kB m.k && ((bigs m).all bigB && (livB m.lives && (decide (m.items.length ≤ 256) && (m.items.all okIt && (manB m.mo m.ms m.mm && (nB m.nu && decide (m.d.size ≤ 8192)))))))
def opt (b : Bool) (x : Int × ByteArray) : List (Int × ByteArray) := if b then [x] else []
def snz (s : ByteArray) : Bool := !s.toList.isEmpty
def bigF : List Int → Int → List (Int × ByteArray)
  | [], _ => []
  | x :: l, t => opt (x != 0) (t, Pl.numOut x 6) ++ bigF l (t + 1)
def lifeF (l : List Int) : List (Int × ByteArray) := l.map fun x => (9, Pl.numOut x 6)
def itB (x : It) : ByteArray := Pl.numOut x.v 6 ++ Pl.numOut x.c 6 ++ Pl.numOut x.r 6 ++ x.b
def itF (l : List It) : List (Int × ByteArray) := l.map fun x => (10, itB x)
def manBy (o s m : Int) : ByteArray := Pl.numOut o 6 ++ Pl.numOut s 2 ++ Pl.numOut m 4
def g1 (m : Mm) : List (Int × ByteArray) := [(1, Pl.numOut m.k 1)]
def g2 (m : Mm) := g1 m ++ bigF (bigs m) 2
def g3 (m : Mm) := g2 m ++ lifeF m.lives
def g4 (m : Mm) := g3 m ++ itF m.items
def g5 (m : Mm) := g4 m ++ opt (!manZ m.mo m.ms m.mm) (11, manBy m.mo m.ms m.mm)
def g6 (m : Mm) := g5 m ++ opt (m.nu != 0) (12, Pl.numOut m.nu 2)
def fields (m : Mm) := g6 m ++ opt (snz m.d) (13, m.d)
def text (m : Mm) : ByteArray := Pl.txt (Pl.encs (fields m))
def packed (m : Mm) : ByteArray := Po.Pl.guardOf (text m)
def packOut (m : Mm) : ByteArray := if right m then (if 60000 < (packed m).size then ⟨#[]⟩ else packed m) else ⟨#[]⟩
def packErr (m : Mm) : Int := if right m then (if 60000 < (packed m).size then 2 else 0) else 4
theorem right_iff {m : Mm} : right m = true ↔ kB m.k = true ∧ (bigs m).all bigB = true ∧ livB m.lives = true ∧ m.items.length ≤ 256 ∧ m.items.all okIt = true ∧ manB m.mo m.ms m.mm = true ∧ nB m.nu = true ∧ m.d.size ≤ 8192 := by
  unfold right
  simp only [Bool.and_eq_true, decide_eq_true_eq]
theorem big_iff {x : Int} : bigB x = true ↔ 0 ≤ x ∧ x ≤ 1099511627776 := by simp [bigB]
/-- What is a number of so many bytes at most. -/
theorem numOut_le (n z : Int) (_ : 0 ≤ z) (_ : z ≤ 8) : (Pl.numOut n z).size ≤ z.toNat := by
  unfold Pl.numOut
  split
  · rw [Pl.txt_size]; exact Nat.zero_le _
  · rw [Pl.txt_size, Pl.digits_length]; exact Nat.le_refl _
/-- Fields whose tags do not fall from lo on. -/
theorem err_mono : ∀ {l : List (Int × ByteArray)} {lo hi : Int}, lo ≤ hi → Pl.packErr hi l = 0 → Pl.packErr lo l = 0
  | [], _, _, _, _ => rfl
  | x :: l, lo, hi, h, he => by
    unfold Pl.packErr at he ⊢
    by_cases hb : Pl.badAt hi x = 0
    · rw [if_pos hb] at he
      have : Pl.badAt lo x = 0 := by
        unfold Pl.badAt at hb ⊢
        split at hb
        · cases hb
        · rename_i h1
          rw [if_neg h1]
          split at hb
          · cases hb
          · rename_i h2
            rw [if_neg h2]
            split at hb
            · cases hb
            · rw [if_neg (by omega)]
      rw [if_pos this]
      exact he
    · rw [if_neg hb] at he
      exact absurd he hb
theorem err_append : ∀ {a b : List (Int × ByteArray)} {lo hi : Int}, lo ≤ hi → Pl.packErr lo a = 0 → (∀ x ∈ a, x.1 ≤ hi) → Pl.packErr hi b = 0 → Pl.packErr lo (a ++ b) = 0
  | [], b, lo, hi, h, _, _, hb => err_mono h hb
  | x :: a, b, lo, hi, h, ha, hx, hb => by
    rw [List.cons_append]
    unfold Pl.packErr at ha ⊢
    by_cases h1 : Pl.badAt lo x = 0
    · rw [if_pos h1] at ha ⊢
      exact err_append (hx x (by simp)) ha (fun y hy => hx y (by simp [hy])) hb
    · rw [if_neg h1] at ha
      exact absurd ha h1
theorem err_one {t lo : Int} {s : ByteArray} (h1 : 1 ≤ t) (h2 : t ≤ 255) (h3 : lo ≤ t) (hs : s.size ≤ 65535) : Pl.packErr lo [(t, s)] = 0 := by
  have : Pl.badAt lo (t, s) = 0 := by
    unfold Pl.badAt
    simp only
    rw [if_neg (by omega), if_neg (by omega), if_neg (by omega)]
  simp [Pl.packErr, this]
theorem err_opt {t lo : Int} {s : ByteArray} (b : Bool) (h1 : 1 ≤ t) (h2 : t ≤ 255) (h3 : lo ≤ t) (hs : s.size ≤ 65535) : Pl.packErr lo (opt b (t, s)) = 0 := by
  cases b
  · rfl
  · exact err_one h1 h2 h3 hs
theorem mem_opt {b : Bool} {x y : Int × ByteArray} (h : y ∈ opt b x) : y = x := by
  cases b
  · cases h
  · simpa [opt] using h
theorem err_all {t : Int} (h1 : 1 ≤ t) (h2 : t ≤ 255) : ∀ {l : List (Int × ByteArray)}, (∀ x ∈ l, x.1 = t ∧ x.2.size ≤ 65535) → Pl.packErr t l = 0
  | [], _ => rfl
  | (u, s) :: l, h => by
    obtain ⟨rfl, hs⟩ := h (u, s) (by simp)
    simp only at hs
    have : Pl.badAt u (u, s) = 0 := by
      unfold Pl.badAt
      simp only
      rw [if_neg (by omega), if_neg (by omega), if_neg (by omega)]
    unfold Pl.packErr
    rw [if_pos this]
    exact err_all h1 h2 fun x hx => h x (by simp [hx])
theorem bigF_tag : ∀ {l : List Int} {t : Int} {x : Int × ByteArray}, x ∈ bigF l t → t ≤ x.1 ∧ x.1 < t + l.length ∧ x.2.size ≤ 6
  | [], _, _, h => by cases h
  | y :: l, t, x, h => by
    unfold bigF at h
    rw [List.length_cons]
    rcases List.mem_append.1 h with h | h
    · obtain rfl := mem_opt h
      exact ⟨Int.le_refl _, by omega, numOut_le y 6 (by decide) (by decide)⟩
    · have := bigF_tag h
      omega
theorem bigF_err : ∀ {l : List Int} {t : Int}, 1 ≤ t → t + l.length ≤ 255 → Pl.packErr t (bigF l t) = 0
  | [], _, _, _ => rfl
  | y :: l, t, h1, h2 => by
    rw [List.length_cons] at h2
    unfold bigF
    refine err_append (hi := t) (Int.le_refl _) (err_opt _ h1 (by omega) (Int.le_refl _) (Nat.le_trans (numOut_le y 6 (by decide) (by decide)) (by decide))) (fun x hx => by rw [mem_opt hx]; exact Int.le_refl _) ?_
    exact err_mono (by omega) (bigF_err (l := l) (t := t + 1) (by omega) (by omega))
theorem itB_size {x : It} (h : okIt x = true) : (itB x).size ≤ 4114 := by
  unfold itB
  simp only [ByteArray.size_append]
  have h1 := numOut_le x.v 6 (by decide) (by decide)
  have h2 := numOut_le x.c 6 (by decide) (by decide)
  have h3 := numOut_le x.r 6 (by decide) (by decide)
  simp only [okIt, decide_eq_true_eq] at h
  have e : (6 : Int).toNat = 6 := rfl
  omega
theorem manBy_size (o s m : Int) : (manBy o s m).size ≤ 12 := by
  unfold manBy
  simp only [ByteArray.size_append]
  have h1 := numOut_le o 6 (by decide) (by decide)
  have h2 := numOut_le s 2 (by decide) (by decide)
  have h3 := numOut_le m 4 (by decide) (by decide)
  have e1 : (6 : Int).toNat = 6 := rfl
  have e2 : (2 : Int).toNat = 2 := rfl
  have e3 : (4 : Int).toNat = 4 := rfl
  omega
theorem fields_tag {m : Mm} (hr : right m = true) {x : Int × ByteArray} (h : x ∈ fields m) : x.2.size ≤ 8192 := by
  obtain ⟨_, _, _, _, h5, _, _, h8⟩ := right_iff.1 hr
  unfold fields g6 g5 g4 g3 g2 g1 at h
  simp only [List.mem_append, List.mem_singleton] at h
  rcases h with (((((rfl | h) | h) | h) | h) | h) | h
  · exact Nat.le_trans (numOut_le m.k 1 (by decide) (by decide)) (by decide)
  · have := (bigF_tag h).2.2; omega
  · obtain ⟨y, _, rfl⟩ := List.mem_map.1 h
    exact Nat.le_trans (numOut_le y 6 (by decide) (by decide)) (by decide)
  · obtain ⟨y, hy, rfl⟩ := List.mem_map.1 h
    have := itB_size (List.all_eq_true.1 h5 y hy)
    show (itB y).size ≤ 8192
    omega
  · obtain rfl := mem_opt h
    have := manBy_size m.mo m.ms m.mm
    show (manBy m.mo m.ms m.mm).size ≤ 8192
    omega
  · obtain rfl := mem_opt h
    exact Nat.le_trans (numOut_le m.nu 2 (by decide) (by decide)) (by decide)
  · obtain rfl := mem_opt h
    exact h8
theorem fields_err {m : Mm} (hr : right m = true) : Pl.packErr 1 (fields m) = 0 := by
  obtain ⟨_, _, _, _, h5, _, _, h8⟩ := right_iff.1 hr
  have n6 : ∀ y : Int, (Pl.numOut y 6).size ≤ 65535 := fun y => Nat.le_trans (numOut_le y 6 (by decide) (by decide)) (by decide)
  have e1 : Pl.packErr 1 (g1 m) = 0 := err_one (by decide) (by decide) (by decide) (Nat.le_trans (numOut_le m.k 1 (by decide) (by decide)) (by decide))
  have t1 : ∀ x ∈ g1 m, x.1 ≤ 1 := fun x hx => by simp only [g1, List.mem_singleton] at hx; subst hx; exact Int.le_refl _
  have e2 : Pl.packErr 1 (g2 m) = 0 := err_append (hi := 2) (by decide) e1 (fun x hx => by have := t1 x hx; omega) (bigF_err (by decide) (by simp [bigs]))
  have t2 : ∀ x ∈ g2 m, x.1 ≤ 8 := fun x hx => by
    rcases List.mem_append.1 hx with hx | hx
    · have := t1 x hx; omega
    · have := bigF_tag hx; simp [bigs] at this; omega
  have e3 : Pl.packErr 1 (g3 m) = 0 := err_append (hi := 9) (by decide) e2 (fun x hx => by have := t2 x hx; omega) (err_all (by decide) (by decide) fun x hx => by obtain ⟨y, _, rfl⟩ := List.mem_map.1 hx; exact ⟨rfl, n6 y⟩)
  have t3 : ∀ x ∈ g3 m, x.1 ≤ 9 := fun x hx => by
    rcases List.mem_append.1 hx with hx | hx
    · have := t2 x hx; omega
    · obtain ⟨y, _, rfl⟩ := List.mem_map.1 hx; exact Int.le_refl _
  have e4 : Pl.packErr 1 (g4 m) = 0 := err_append (hi := 10) (by decide) e3 (fun x hx => by have := t3 x hx; omega) (err_all (by decide) (by decide) fun x hx => by
    obtain ⟨y, hy, rfl⟩ := List.mem_map.1 hx
    exact ⟨rfl, Nat.le_trans (itB_size (List.all_eq_true.1 h5 y hy)) (by decide)⟩)
  have t4 : ∀ x ∈ g4 m, x.1 ≤ 10 := fun x hx => by
    rcases List.mem_append.1 hx with hx | hx
    · have := t3 x hx; omega
    · obtain ⟨y, _, rfl⟩ := List.mem_map.1 hx; exact Int.le_refl _
  have e5 : Pl.packErr 1 (g5 m) = 0 := err_append (hi := 11) (by decide) e4 (fun x hx => by have := t4 x hx; omega) (err_opt _ (by decide) (by decide) (by decide) (Nat.le_trans (manBy_size _ _ _) (by decide)))
  have t5 : ∀ x ∈ g5 m, x.1 ≤ 11 := fun x hx => by
    rcases List.mem_append.1 hx with hx | hx
    · have := t4 x hx; omega
    · rw [mem_opt hx]; exact Int.le_refl _
  have e6 : Pl.packErr 1 (g6 m) = 0 := err_append (hi := 12) (by decide) e5 (fun x hx => by have := t5 x hx; omega) (err_opt _ (by decide) (by decide) (by decide) (Nat.le_trans (numOut_le m.nu 2 (by decide) (by decide)) (by decide)))
  have t6 : ∀ x ∈ g6 m, x.1 ≤ 12 := fun x hx => by
    rcases List.mem_append.1 hx with hx | hx
    · have := t5 x hx; omega
    · rw [mem_opt hx]; exact Int.le_refl _
  exact err_append (hi := 13) (by decide) e6 (fun x hx => by have := t6 x hx; omega) (err_opt _ (by decide) (by decide) (by decide) (by omega))
theorem opt_len (b : Bool) (x : Int × ByteArray) : (opt b x).length ≤ 1 := by cases b <;> simp [opt]
theorem bigF_len : ∀ (l : List Int) (t : Int), (bigF l t).length ≤ l.length
  | [], _ => Nat.le_refl _
  | y :: l, t => by
    unfold bigF
    have := bigF_len l (t + 1)
    have := opt_len (y != 0) (t, Pl.numOut y 6)
    rw [List.length_append, List.length_cons]
    omega
theorem liv_len {l : List Int} (h : livB l = true) : l.length ≤ 7 := by
  unfold livB at h
  simp only [Bool.or_eq_true, Bool.and_eq_true, decide_eq_true_eq] at h
  omega
theorem fields_len {m : Mm} (hr : right m = true) : (fields m).length ≤ 280 ∧ (g6 m).length ≤ 280 ∧ (g5 m).length ≤ 280 ∧ (g4 m).length ≤ 280 ∧ (g3 m).length ≤ 15 ∧ (g2 m).length ≤ 8 := by
  obtain ⟨_, _, h3, h4, _⟩ := right_iff.1 hr
  have l2 := bigF_len (bigs m) 2
  have l3 := liv_len h3
  have l5 := opt_len (!manZ m.mo m.ms m.mm) (11, manBy m.mo m.ms m.mm)
  have l6 := opt_len (m.nu != 0) (12, Pl.numOut m.nu 2)
  have l7 := opt_len (snz m.d) (13, m.d)
  have e2 : (g2 m).length = 1 + (bigF (bigs m) 2).length := by simp [g2, g1]; omega
  have e3 : (g3 m).length = (g2 m).length + m.lives.length := by simp [g3, lifeF]
  have e4 : (g4 m).length = (g3 m).length + m.items.length := by simp [g4, itF]
  have e5 : (g5 m).length = (g4 m).length + (opt (!manZ m.mo m.ms m.mm) (11, manBy m.mo m.ms m.mm)).length := by simp [g5]
  have e6 : (g6 m).length = (g5 m).length + (opt (m.nu != 0) (12, Pl.numOut m.nu 2)).length := by simp [g6]
  have e7 : (fields m).length = (g6 m).length + (opt (snz m.d) (13, m.d)).length := by simp [fields]
  have hb : (bigs m).length = 7 := rfl
  rw [hb] at l2
  omega
theorem encs_le {l : List (Int × ByteArray)} (h : ∀ x ∈ l, x.2.size ≤ 8192) : (Pl.encs l).length ≤ l.length * 8195 := by
  induction l with
  | nil => simp [Pl.encs]
  | cons x l ih =>
    have := ih fun y hy => h y (by simp [hy])
    have h1 := h x (by simp)
    have e : (Pl.encs (x :: l)).length = (Pl.encOne x).length + (Pl.encs l).length := by simp [Pl.encs]
    have e2 : (Pl.encOne x).length = 3 + x.2.size := Pl.encOne_length x
    rw [e, e2, List.length_cons]
    omega
theorem encs_small {m : Mm} (hr : right m = true) : (Pl.encs (fields m)).length ≤ 2294600 := by
  have h1 := encs_le (l := fields m) fun x hx => fields_tag hr hx
  have h2 := (fields_len hr).1
  have : (fields m).length * 8195 ≤ 280 * 8195 := Nat.mul_le_mul_right _ h2
  omega
theorem tlv_out {m : Mm} (hr : right m = true) : Pl.packOut (fields m) = text m := by rw [Pl.packOut, fields_err hr, if_pos rfl]; rfl
theorem text_size {m : Mm} (hr : right m = true) : (text m).size ≤ 2294600 := by unfold text; rw [Pl.txt_size]; exact encs_small hr
end Me
end Go.Proofs.YtkdhbjmpjbdobaaGreatDoor
/- Num -/
namespace Go.Proofs.YtkdhbjmpjbdobaaGreatDoor
open Go.ChangeShapes Go.WideShapes Go.ChangeAt Go.RowKit Go.Deep
set_option maxRecDepth 100000

theorem laidOut : laidOutB Tryz.prog = true := by kernel_rfl
theorem own : ownKnob Tryz.prog.godebug = none := by kernel_rfl
theorem i64_le {x : Int} (h : (Lit.int .i64 x).wf = true) : -9223372036854775808 ≤ x ∧ x ≤ 9223372036854775807 := by
  simp [Lit.wf, IntKind.min, IntKind.max, IntKind.signed, IntKind.bits] at h
  exact ⟨by omega, by omega⟩


/-- string(b) of a slice of bytes whose cells are known, in whatever world. -/
theorem conv_bytes (W : World) (b len cap : Nat) (xs : List Int) (hlen : xs.length = len) (hcell : ∀ i, i < len → W.cell? ⟨b, i, none⟩ = some (.int .u8 (xs.getD i 0))) :
    (convert 167 9 (.slice (some ⟨b, 0, none⟩) len cap)).run Tryz.prog W = .ok (.string (Pl.txt (xs.map fun n => UInt8.ofNat n.toNat))) W :=
  run_convert_bytes_arg W 167 5 Tryz.underlying167 Tryz.underlying5 b 0 len cap xs hlen (fun i hi => by rw [Nat.zero_add]; exact hcell i hi) 9 Tryz.underlying9

set_option maxRecDepth 100000 in
set_option maxHeartbeats 400000 in
theorem byte_any (n : Int) (w : World) :
    Calls Tryz.prog 119 #[.int .i64 n] w fun e w' => e = .returned (.string (Pl.txt [UInt8.ofNat (n % 256).toNat])) ∧ Below w.heap.size w w' := by
  have hcv := conv_bytes (w.alloc (Obj.cells #[Value.int IntKind.u8 (n % 256)] 5)) w.heap.size 1 1 [n % 256] rfl (fun i hi => by
    obtain rfl : i = 0 := by omega
    simp)
  go_enter Tryz.func119, Tryz.ntmps119
  go_wp2
  go_ret
  exact ⟨rfl, (Below.refl _ _).alloc (Nat.le_refl _) _⟩

set_option maxRecDepth 100000 in
set_option maxHeartbeats 400000 in
theorem refNum_any (n size : Int) (w : World) (hn : n ≤ 9223372036854775807) :
    Calls Tryz.prog 74 #[.int .i64 n, .int .i64 size] w fun e w' => e = .returned (.tuple #[.string (Pl.numOut n size), .int .i64 (Pl.numErr n size)]) ∧ Below w.heap.size w w' := by
  by_cases h1 : size < 1
  · have hb : Pl.numBad n size = true := by simp [Pl.numBad, h1]
    have H : Hid (Pl.numOut n size = Pl.txt [] ∧ Pl.numErr n size = 1) := ⟨by simp [Pl.numOut, hb], by simp [Pl.numErr, hb]⟩
    clear hb
    go_enter Tryz.func74, Tryz.ntmps74
    go_wp2
    go_ret2
    rw [H.out.1, H.out.2]
    exact ⟨rfl, Below.refl _ _⟩
  by_cases h2 : 8 < size
  · have hb : Pl.numBad n size = true := by simp [Pl.numBad, h2]
    have H : Hid (Pl.numOut n size = Pl.txt [] ∧ Pl.numErr n size = 1) := ⟨by simp [Pl.numOut, hb], by simp [Pl.numErr, hb]⟩
    clear hb
    go_enter Tryz.func74, Tryz.ntmps74
    go_wp2
    go_ret2
    rw [H.out.1, H.out.2]
    exact ⟨rfl, Below.refl _ _⟩
  by_cases h3 : n < 0
  · have hb : Pl.numBad n size = true := by simp [Pl.numBad, h3]
    have H : Hid (Pl.numOut n size = Pl.txt [] ∧ Pl.numErr n size = 1) := ⟨by simp [Pl.numOut, hb], by simp [Pl.numErr, hb]⟩
    clear hb
    go_enter Tryz.func74, Tryz.ntmps74
    go_wp2
    go_ret2
    rw [H.out.1, H.out.2]
    exact ⟨rfl, Below.refl _ _⟩
  obtain ⟨m, rfl⟩ := Int.eq_ofNat_of_zero_le (show 0 ≤ n by omega)
  obtain ⟨z, rfl⟩ := Int.eq_ofNat_of_zero_le (show 0 ≤ size by omega)
  go_enter Tryz.func74, Tryz.ntmps74
  go_wp2
  go_loopw [0, 6, 7] (fun t s i wr => ∃ k : Nat, k ≤ z ∧ i = .int .i64 k ∧ t = .int .i64 ((m / 256 ^ k : Nat) : Int) ∧ s = .string (Pl.txt (Pl.digits k m)) ∧ Below w.heap.size w wr) (fun _ _ i _ => z - (intOf i).toNat)
  case atStart => exact ⟨0, Nat.zero_le _, rfl, by simp, rfl, Below.refl _ _⟩
  case round =>
    obtain ⟨k, hk, rfl, rfl, rfl, hbl⟩ := hrel
    obtain ⟨x, hx⟩ : ∃ x, m / 256 ^ k = x := ⟨_, rfl⟩
    have hxm : x ≤ m := by rw [← hx]; exact Nat.div_le_self _ _
    rw [hx]
    have HX : Hid (m / 256 ^ k = x) := hx
    clear hx
    by_cases hlt : k < z
    · go_wp2_with fail
      refine (byte_any _ _).mono ?_
      rintro e w' ⟨rfl, hb'⟩
      have hts := Pl.txt_size
      have hdl := Pl.digits_length
      go_wp2
      go_roundw
      case rel =>
        have hm := HX.out
        refine ⟨k + 1, by omega, by go_num, ?_, ?_, hbl.trans (hb'.mono hbl.size)⟩
        · have := Pl.div_step m k
          rw [Int.toNat_natCast, hm] at this
          rw [this]
        · rw [Pl.digits_succ, hm, Pl.txt_append]; rfl
      case measure => simp [intOf]; omega
    · obtain rfl : k = z := by omega
      by_cases h0 : x = 0
      · have hb : Pl.numBad m k = false := by simp [Pl.numBad, HX.out, h0]; omega
        have H : Hid (Pl.numOut m k = Pl.txt (Pl.digits k m) ∧ Pl.numErr m k = 0) := ⟨by simp [Pl.numOut, hb], by simp [Pl.numErr, hb]⟩
        clear hb
        have h0' : ¬ (0 : Int) < (x : Int) := by omega
        have H0 : Hid (x = 0) := h0
        clear h0
        go_wp2
        go_ret2
        rw [H.out.1, H.out.2]
        exact ⟨rfl, hbl⟩
      · have hb : Pl.numBad m k = true := by simp [Pl.numBad, HX.out, h0]
        have H : Hid (Pl.numOut m k = Pl.txt [] ∧ Pl.numErr m k = 1) := ⟨by simp [Pl.numOut, hb], by simp [Pl.numErr, hb]⟩
        clear hb
        have h0' : (0 : Int) < (x : Int) := by omega
        go_wp2
        go_ret2
        rw [H.out.1, H.out.2]
        exact ⟨rfl, hbl⟩

theorem info5 : (Tryz.prog.info? 5).map (fun i => (i.zero, i.size, i.bytes)) = some (some (.int .u8 0), 1, 1) := by kernel_rfl

def numRow (m z r q : Nat) : Value := .int .u8 (if r ≤ q then (m / 256 ^ (z - 1 - q) % 256 : Nat) else 0)

set_option maxRecDepth 100000 in
set_option maxHeartbeats 400000 in
theorem num_any (n size : Int) (w : World) (hn : n ≤ 9223372036854775807) :
    Calls Tryz.prog 131 #[.int .i64 n, .int .i64 size] w fun e w' => e = .returned (.tuple #[.string (Pl.numOut n size), .int .i64 (Pl.numErr n size)]) ∧ Below w.heap.size w w' := by
  by_cases h1 : size < 1
  · have hb : Pl.numBad n size = true := by simp [Pl.numBad, h1]
    have H : Hid (Pl.numOut n size = Pl.txt [] ∧ Pl.numErr n size = 1) := ⟨by simp [Pl.numOut, hb], by simp [Pl.numErr, hb]⟩
    clear hb
    go_enter Tryz.func131, Tryz.ntmps131
    go_wp2
    go_ret2
    rw [H.out.1, H.out.2]
    exact ⟨rfl, Below.refl _ _⟩
  by_cases h2 : 8 < size
  · have hb : Pl.numBad n size = true := by simp [Pl.numBad, h2]
    have H : Hid (Pl.numOut n size = Pl.txt [] ∧ Pl.numErr n size = 1) := ⟨by simp [Pl.numOut, hb], by simp [Pl.numErr, hb]⟩
    clear hb
    go_enter Tryz.func131, Tryz.ntmps131
    go_wp2
    go_ret2
    rw [H.out.1, H.out.2]
    exact ⟨rfl, Below.refl _ _⟩
  by_cases h3 : n < 0
  · have hb : Pl.numBad n size = true := by simp [Pl.numBad, h3]
    have H : Hid (Pl.numOut n size = Pl.txt [] ∧ Pl.numErr n size = 1) := ⟨by simp [Pl.numOut, hb], by simp [Pl.numErr, hb]⟩
    clear hb
    go_enter Tryz.func131, Tryz.ntmps131
    go_wp2
    go_ret2
    rw [H.out.1, H.out.2]
    exact ⟨rfl, Below.refl _ _⟩
  obtain ⟨m, rfl⟩ := Int.eq_ofNat_of_zero_le (show 0 ≤ n by omega)
  obtain ⟨z, rfl⟩ := Int.eq_ofNat_of_zero_le (show 0 ≤ size by omega)
  have hmk := run_make_row' (P := Tryz.prog) 167 5 (.int .u8 0) 1 Tryz.underlying167 info5 rfl .i64 .i64 z (by omega) (by omega)
  go_enter Tryz.func131, Tryz.ntmps131
  go_wp2
  go_loopw [0, 7] (fun t i wr => ∃ r : Nat, r ≤ z ∧ i = .int .i64 ((r : Int) - 1) ∧ t = .int .i64 ((m / 256 ^ (z - r) : Nat) : Int) ∧ wr.rowIs w.heap.size 5 z (numRow m z r) ∧ Below w.heap.size w wr) (fun _ i _ => (intOf i + 1).toNat)
  case atStart =>
    refine ⟨z, Nat.le_refl _, rfl, by simp, (World.rowIs_made w (.int .u8 0) z 5).congr fun q hq => ?_, (Below.refl _ _).alloc (Nat.le_refl _) _⟩
    simp [numRow, Nat.not_le.2 hq]
  case round =>
    obtain ⟨r, hr, rfl, rfl, hrow, hbl⟩ := hrel
    obtain ⟨x, hx⟩ : ∃ x, m / 256 ^ (z - r) = x := ⟨_, rfl⟩
    have hxm : x ≤ m := by rw [← hx]; exact Nat.div_le_self _ _
    rw [hx]
    have HX : Hid (m / 256 ^ (z - r) = x) := hx
    clear hx hmk
    match r, hr with
    | j + 1, hr =>
      have hj : ((j + 1 : Nat) : Int) - 1 = (j : Int) := by omega
      rw [hj]
      clear hj
      have hc := hrow.cell (i := j) (by omega)
      have hf := hrow.frozen j
      have H : Hid (wr.rowIs w.heap.size 5 z (numRow m z (j + 1))) := hrow
      clear hrow
      have hjz : j < z := by omega
      go_wp2
      go_roundw
      case rel =>
        have hm := HX.out
        refine ⟨j, by omega, rfl, ?_, (H.out.set j _).congr fun q hq => ?_, hbl.setCell (Nat.le_refl _) _⟩
        · have := Pl.div_step m (z - (j + 1))
          rw [Int.toNat_natCast, hm] at this
          rw [this, show z - (j + 1) + 1 = z - j from by omega]
        · unfold numRow
          by_cases hq1 : q = j
          · subst hq1
            rw [if_pos rfl, if_pos (Nat.le_refl _), show z - 1 - q = z - (q + 1) from by omega, hm]
            simp
          · rw [if_neg hq1]
            by_cases hq2 : j ≤ q
            · rw [if_pos hq2, if_pos (by omega)]
            · rw [if_neg hq2, if_neg (by omega)]
      case measure => simp [intOf]
    | 0, hr =>
      have hz0 : z - 0 = z := by omega
      by_cases h0 : x = 0
      · have hb : Pl.numBad m z = false := by
          have := HX.out
          rw [hz0] at this
          simp [Pl.numBad, this, h0]; omega
        have H : Hid (Pl.numOut m z = Pl.txt (Pl.digits z m) ∧ Pl.numErr m z = 0) := ⟨by simp [Pl.numOut, hb], by simp [Pl.numErr, hb]⟩
        clear hb
        have hcv := conv_bytes wr w.heap.size z z ((List.range z).map fun q => ((m / 256 ^ (z - 1 - q) % 256 : Nat) : Int)) (by simp) (fun i hi => by
          rw [hrow.cell hi]
          simp [numRow, hi, List.getD])
        rw [show List.map (fun n : Int => UInt8.ofNat n.toNat) ((List.range z).map fun q => ((m / 256 ^ (z - 1 - q) % 256 : Nat) : Int)) = Pl.digits z m from by simp only [List.map_map, Pl.digits]; exact List.map_congr_left fun q _ => by simp only [Function.comp, Int.toNat_natCast]] at hcv
        have h0' : ((x : Int) != 0) = false := by simp [h0]
        have H0 : Hid (x = 0) := h0
        clear h0
        go_wp2
        go_ret2
        rw [H.out.1, H.out.2]
        exact ⟨rfl, hbl⟩
      · have hb : Pl.numBad m z = true := by
          have := HX.out
          rw [hz0] at this
          simp [Pl.numBad, this, h0]
        have H : Hid (Pl.numOut m z = Pl.txt [] ∧ Pl.numErr m z = 1) := ⟨by simp [Pl.numOut, hb], by simp [Pl.numErr, hb]⟩
        clear hb
        have h0' : ((x : Int) != 0) = true := by simp [h0]
        go_wp2
        go_ret2
        rw [H.out.1, H.out.2]
        exact ⟨rfl, hbl⟩
theorem small_num : Pl.numOut 258 2 = ⟨#[1, 2]⟩ ∧ Pl.numErr 258 2 = 0 := by decide

end Go.Proofs.YtkdhbjmpjbdobaaGreatDoor
