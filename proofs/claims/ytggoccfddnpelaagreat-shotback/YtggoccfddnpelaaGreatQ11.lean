/- TPlainU, TPlainK, TPlainB, KPlain, KBackP, TNum, NKit, as one. -/
import Derived.Lib.IndexBytes
import Derived.Laws.BitsAllLaws
import Derived.Test.YtggoccfddnpelaaGreatChecked
import Derived.RangeFuncBox
import Derived.OneCell
import Derived.Test.YtggoccfddnpelaaGreatQ10
namespace Go.Proofs.YtggoccfddnpelaaGreat.Ks
set_option maxRecDepth 100000
namespace Pl
def tagOf (l : List UInt8) : Int := (l.getD 0 0).toNat
def lenOf (l : List UInt8) : Nat := 256 * (l.getD 1 0).toNat + (l.getD 2 0).toNat
def stepErr (last : Int) (l : List UInt8) : Int := if l.length < 3 then 10 else if tagOf l = 0 then 4 else if tagOf l < last then 11 else if l.length - 3 < lenOf l then 10 else 0
def fieldOf (l : List UInt8) : Int × ByteArray := (tagOf l, txt ((l.drop 3).take (lenOf l)))
def join (d : List (Int × ByteArray)) (r : List (Int × ByteArray) × Int) : List (Int × ByteArray) × Int := if r.2 = 0 then (d ++ r.1, 0) else ([], r.2)
def parse : Nat → Int → List UInt8 → List (Int × ByteArray) × Int
  | 0, _, _ => ([], 0)
  | f + 1, last, l => if l = [] then ([], 0) else if stepErr last l = 0 then join [fieldOf l] (parse f (tagOf l) (l.drop (3 + lenOf l))) else ([], stepErr last l)
def unpOut (l : List UInt8) : List (Int × ByteArray) := (parse l.length 1 l).1
def unpErr (l : List UInt8) : Int := (parse l.length 1 l).2
theorem join_join (d e : List (Int × ByteArray)) (r : List (Int × ByteArray) × Int) : join d (join e r) = join (d ++ e) r := by
  unfold join
  by_cases h : r.2 = 0
  · simp [h]
  · simp [h]
theorem parse_nil (f : Nat) (last : Int) : parse f last [] = ([], 0) := by
  cases f <;> simp [parse]
/-- On the way: the fields that are done, the last tag, the bytes that are left. -/
def Mid (l0 : List UInt8) (done : List (Int × ByteArray)) (last : Int) (rest : List UInt8) : Prop :=
  done.length * 3 + rest.length ≤ l0.length ∧ ∃ f, rest.length ≤ f ∧ parse l0.length 1 l0 = join done (parse f last rest)
theorem join_nil (r : List (Int × ByteArray) × Int) (h : r.2 ≠ 0 → r.1 = []) : join [] r = r := by
  unfold join
  by_cases h0 : r.2 = 0
  · rw [if_pos h0, List.nil_append, ← h0]
  · rw [if_neg h0, ← h h0]
theorem parse_err_nil : ∀ (f : Nat) (last : Int) (l : List UInt8), (parse f last l).2 ≠ 0 → (parse f last l).1 = []
  | 0, _, _, h => by simp [parse] at h
  | f + 1, last, l, h => by
    unfold parse at h ⊢
    by_cases h1 : l = []
    · simp [h1] at h
    · simp only [if_neg h1] at h ⊢
      by_cases h2 : stepErr last l = 0
      · simp only [if_pos h2] at h ⊢
        unfold join at h ⊢
        by_cases h3 : (parse f (tagOf l) (l.drop (3 + lenOf l))).2 = 0
        · simp [h3] at h
        · simp [h3]
      · simp [h2]
theorem Mid.start (l : List UInt8) : Mid l [] 1 l :=
  ⟨by simp, l.length, Nat.le_refl _, (join_nil _ (parse_err_nil _ _ _)).symm⟩
theorem Mid.finish {l0 : List UInt8} {done : List (Int × ByteArray)} {last : Int} (h : Mid l0 done last []) : unpOut l0 = done ∧ unpErr l0 = 0 := by
  obtain ⟨_, f, _, e⟩ := h
  rw [parse_nil] at e
  unfold unpOut unpErr
  rw [e]
  simp [join]
theorem Mid.fail {l0 : List UInt8} {done : List (Int × ByteArray)} {last : Int} {rest : List UInt8} {e : Int} (h : Mid l0 done last rest) (hr : rest ≠ []) (hs : stepErr last rest = e) (he : e ≠ 0) : unpOut l0 = [] ∧ unpErr l0 = e := by
  obtain ⟨_, f, hf, eq⟩ := h
  match f, hf with
  | 0, hf => exact absurd (List.eq_nil_of_length_eq_zero (by omega)) hr
  | f + 1, _ =>
    have hp : parse (f + 1) last rest = ([], e) := by
      unfold parse
      rw [if_neg hr, hs, if_neg he]
    rw [hp] at eq
    unfold unpOut unpErr
    rw [eq]
    simp [join, he]
theorem Mid.step {l0 : List UInt8} {done : List (Int × ByteArray)} {last : Int} {rest : List UInt8} (h : Mid l0 done last rest) (hr : rest ≠ []) (hs : stepErr last rest = 0) :
    Mid l0 (done ++ [fieldOf rest]) (tagOf rest) (rest.drop (3 + lenOf rest)) := by
  obtain ⟨hl, f, hf, eq⟩ := h
  match f, hf with
  | 0, hf => exact absurd (List.eq_nil_of_length_eq_zero (by omega)) hr
  | f + 1, hf =>
    have h3 : ¬ rest.length < 3 := by
      intro h
      simp [stepErr, h] at hs
    refine ⟨by simp only [List.length_append, List.length_cons, List.length_nil, List.length_drop]; omega, f, by simp only [List.length_drop]; omega, ?_⟩
    rw [eq, ← join_join]
    congr 1
    conv => lhs; unfold parse
    rw [if_neg hr, if_pos hs]
theorem getD_at (s : ByteArray) (i : Nat) (h : i < s.size) : s.data.toList.getD i 0 = s[i] := by
  have h2 : i < s.data.toList.length := by simpa using h
  simp only [List.getD, List.getElem?_eq_getElem h2, Option.getD_some]
  simp
  rfl
theorem extract_txt (s : ByteArray) (a b : Nat) : s.extract a b = txt ((s.data.toList.drop a).take (b - a)) := by
  apply ByteArray.ext
  apply Array.ext'
  rw [ByteArray.data_extract]
  simp [txt, List.extract]
end Pl
namespace Pl
theorem badAt_zero {last : Int} {x : Int × ByteArray} (h : badAt last x = 0) : 1 ≤ x.1 ∧ x.1 ≤ 255 ∧ x.2.size ≤ 65535 ∧ last ≤ x.1 := by
  unfold badAt at h
  split at h
  · cases h
  · split at h
    · cases h
    · split at h
      · cases h
      · omega
theorem parse_encs : ∀ (l : List (Int × ByteArray)) (last : Int) (f : Nat), packErr last l = 0 → (encs l).length ≤ f → parse f last (encs l) = (l, 0)
  | [], last, f, _, _ => parse_nil f last
  | x :: l, last, f, hp, hf => by
    have hb : badAt last x = 0 := by
      unfold packErr at hp
      split at hp
      · assumption
      · exact hp
    have hp' : packErr x.1 l = 0 := by
      unfold packErr at hp
      rwa [if_pos hb] at hp
    obtain ⟨h1, h2, h3, h4⟩ := badAt_zero hb
    obtain ⟨t, s⟩ := x
    simp only at h1 h2 h3 h4 hp'
    have e : encs ((t, s) :: l) = UInt8.ofNat t.toNat :: UInt8.ofNat (s.size / 256) :: UInt8.ofNat (s.size % 256) :: (s.data.toList ++ encs l) := by simp [encs, encOne]
    have hsl : s.data.toList.length = s.size := by simp
    have hlen : (encs ((t, s) :: l)).length = 3 + s.size + (encs l).length := by
      rw [e]; simp only [List.length_cons, List.length_append, hsl]; omega
    rw [hlen] at hf
    have et : tagOf (encs ((t, s) :: l)) = t := by
      rw [e, tagOf, List.getD_cons_zero, UInt8.toNat_ofNat']; omega
    have el : lenOf (encs ((t, s) :: l)) = s.size := by
      rw [e, lenOf, List.getD_cons_succ, List.getD_cons_zero, List.getD_cons_succ, List.getD_cons_succ, List.getD_cons_zero, UInt8.toNat_ofNat', UInt8.toNat_ofNat']; omega
    have ef : fieldOf (encs ((t, s) :: l)) = (t, s) := by
      unfold fieldOf
      rw [et, el, e]
      simp only [List.drop_succ_cons, List.drop_zero]
      rw [List.take_append_of_le_length (by omega), List.take_of_length_le (by omega), txt_toList]
    have ed : (encs ((t, s) :: l)).drop (3 + lenOf (encs ((t, s) :: l))) = encs l := by
      rw [el, ← List.drop_drop, e]
      simp only [List.drop_succ_cons, List.drop_zero]
      rw [← hsl, List.drop_left]
    have es : stepErr last (encs ((t, s) :: l)) = 0 := by
      unfold stepErr
      rw [et, el, hlen, if_neg (by omega), if_neg (by omega), if_neg (by omega), if_neg (by omega)]
    match f, hf with
    | 0, hf => omega
    | f + 1, hf =>
      unfold parse
      rw [if_neg (by rw [e]; simp), if_pos es, ed, ef, et, parse_encs l t f hp' (by omega)]
      simp [join]
theorem unp_encs (l : List (Int × ByteArray)) (h : packErr 1 l = 0) : unpOut (encs l) = l ∧ unpErr (encs l) = 0 := by
  unfold unpOut unpErr
  rw [parse_encs l 1 _ h (Nat.le_refl _)]
  exact ⟨rfl, rfl⟩
end Pl
namespace Pl
theorem numOf_cons_lt (b : UInt8) (l : List UInt8) : numOf (b :: l) < (b.toNat + 1) * 256 ^ l.length := by
  have := numOf_lt_acc l b.toNat
  simpa [numOf] using this
theorem numOf_take_lt (l : List UInt8) (k : Nat) (h8 : l.length ≤ 8) (hh : l.length = 8 → (l.headD 0).toNat < 128) (hk : k < l.length) : numOf (l.take k) < 36028797018963968 := by
  by_cases h7 : k ≤ 6
  · have h1 := numOf_lt (l.take k)
    have h2 : (l.take k).length = k := by simp; omega
    rw [h2] at h1
    have h3 : 256 ^ k ≤ 256 ^ 6 := Nat.pow_le_pow_right (by decide) h7
    have h4 : (256 : Nat) ^ 6 < 36028797018963968 := by decide
    omega
  · have hk7 : k = 7 := by omega
    subst hk7
    match l, h8, hh, hk with
    | b :: r, h8, hh, hk =>
      have hb := hh (by simp at h8 hk ⊢; omega)
      have h1 := numOf_cons_lt b (r.take 6)
      have h2 : (r.take 6).length = 6 := by simp at hk ⊢; omega
      rw [h2] at h1
      simp only [List.headD_cons] at hb
      have h3 : (256 : Nat) ^ 6 = 281474976710656 := by decide
      rw [h3] at h1
      show numOf (b :: r.take 6) < _
      omega
theorem take_snoc (s : ByteArray) (k : Nat) (h : k < s.size) : s.data.toList.take (k + 1) = s.data.toList.take k ++ [s[k]] := by
  rw [List.take_succ_eq_append_getElem (by simpa using h)]; rfl
theorem numOf_take_succ (s : ByteArray) (k : Nat) (h : k < s.size) : numOf (s.data.toList.take (k + 1)) = 256 * numOf (s.data.toList.take k) + s[k].toNat := by
  rw [take_snoc s k h, numOf_snoc]
theorem wrap_i64_small (n : Nat) (h : n < 9223372036854775808) : IntKind.i64.wrap (n : Int) = (n : Int) := by
  have e : (n : Int) % 2 ^ 64 = n := Int.emod_eq_of_lt (by omega) (by omega)
  simp only [IntKind.wrap, IntKind.bits, IntKind.signed, e]
  rw [if_neg]
  simp
  omega
theorem or_byte (x : Nat) (b : UInt8) (hx : x < 36028797018963968) : bits .or .i64 ((x : Int) * 256) (b.toNat : Int) = 256 * (x : Int) + (b.toNat : Int) := by
  have hb := b.toNat_lt
  have e : (x : Int) * 256 = ((256 * x : Nat) : Int) := by omega
  rw [e]
  show IntKind.i64.wrap ((BitVec.ofInt 64 ((256 * x : Nat) : Int) ||| BitVec.ofInt 64 ((b.toNat : Nat) : Int)).toNat : Int) = _
  rw [BitVec.toNat_or, ofInt_u64 (256 * x) (by omega), ofInt_u64 b.toNat (by omega), nat_join 8 (256 * x) b.toNat (by omega) (by omega), wrap_i64_small _ (by omega)]
  omega
end Pl
namespace Ak
structure Cl where
  k : Int
  no : Int
  gen : Int
  no2 : Int
  gen2 : Int
  nm : ByteArray
  nm2 : ByteArray
  pl : Int
  n : Int
  data : ByteArray
def zero : Cl := ⟨0, 0, 0, 0, 0, ⟨#[]⟩, ⟨#[]⟩, 0, 0, ⟨#[]⟩⟩
abbrev hokP (no gen : Int) : Prop := (0 ≤ no ∧ no ≤ 255) ∧ (0 ≤ gen ∧ gen ≤ 1099511627776)
def hok (no gen : Int) : Bool := decide (hokP no gen)
abbrev rightP (c : Cl) : Prop := (1 ≤ c.k ∧ c.k ≤ 14) ∧ hokP c.no c.gen ∧ hokP c.no2 c.gen2 ∧ c.nm.size ≤ 255 ∧ c.nm2.size ≤ 255 ∧ (0 ≤ c.pl ∧ c.pl ≤ 4294967295) ∧ (0 ≤ c.n ∧ c.n ≤ 65535) ∧ c.data.size ≤ 1024
def right (c : Cl) : Bool := decide (rightP c)
theorem right_iff {c : Cl} : right c = true ↔ rightP c := by simp [right]
theorem wrong_iff {c : Cl} : right c = false ↔ ¬ rightP c := by simp [right]
def opt (b : Bool) (x : Int × ByteArray) : List (Int × ByteArray) := if b then [x] else []
def hnz (no gen : Int) : Bool := !(no == 0 && gen == 0)
def snz (s : ByteArray) : Bool := !s.toList.isEmpty
def hbytes (no gen : Int) : ByteArray := Pl.numOut no 1 ++ Pl.numOut gen 6
def f1 (c : Cl) : List (Int × ByteArray) := [(1, Pl.numOut c.k 1)]
def f2 (c : Cl) := f1 c ++ opt (hnz c.no c.gen) (2, hbytes c.no c.gen)
def f3 (c : Cl) := f2 c ++ opt (hnz c.no2 c.gen2) (3, hbytes c.no2 c.gen2)
def f4 (c : Cl) := f3 c ++ opt (snz c.nm) (4, c.nm)
def f5 (c : Cl) := f4 c ++ opt (snz c.nm2) (5, c.nm2)
def f6 (c : Cl) := f5 c ++ opt (c.pl != 0) (6, Pl.numOut c.pl 4)
def f7 (c : Cl) := f6 c ++ opt (c.n != 0) (7, Pl.numOut c.n 2)
def fields (c : Cl) := f7 c ++ opt (snz c.data) (8, c.data)
/-- What Pack answers. -/
def packOut (c : Cl) : ByteArray := if right c then Pl.txt (Pl.encs (fields c)) else ⟨#[]⟩
def packErr (c : Cl) : Int := if right c then 0 else 413
/-- A number of a right call, as bytes. -/
theorem num_ok {n : Int} {z : Nat} (h0 : 0 ≤ n) (hz : 1 ≤ z) (h8 : z ≤ 8) (h : n.toNat < 256 ^ z) : Pl.numOut n z = Pl.txt (Pl.digits z n.toNat) := by
  have hb : Pl.numBad n z = false := by
    simp only [Pl.numBad, Bool.or_eq_false_iff, decide_eq_false_iff_not, Int.toNat_natCast]
    refine ⟨by omega, ?_⟩
    rw [Nat.div_eq_of_lt h]
    simp
  simp [Pl.numOut, hb]
theorem num_size {n : Int} {z : Nat} (h0 : 0 ≤ n) (hz : 1 ≤ z) (h8 : z ≤ 8) (h : n.toNat < 256 ^ z) : (Pl.numOut n z).size = z := by
  rw [num_ok h0 hz h8 h, Pl.txt_size, Pl.digits_length]
theorem numOf_acc (l : List UInt8) : ∀ a : Nat, l.foldl (fun n b => 256 * n + b.toNat) a = a * 256 ^ l.length + Pl.numOf l := by
  induction l with
  | nil => intro a; simp [Pl.numOf]
  | cons b l ih =>
    intro a
    have e : Pl.numOf (b :: l) = (256 * 0 + b.toNat) * 256 ^ l.length + Pl.numOf l := ih (256 * 0 + b.toNat)
    rw [List.foldl_cons, ih, e, List.length_cons, Nat.pow_succ, Nat.mul_zero, Nat.zero_add, Nat.add_mul, Nat.mul_comm 256 a, Nat.mul_assoc, Nat.mul_comm 256, Nat.add_assoc]
theorem numOf_cons (b : UInt8) (l : List UInt8) : Pl.numOf (b :: l) = b.toNat * 256 ^ l.length + Pl.numOf l := by
  have e : Pl.numOf (b :: l) = l.foldl (fun n b => 256 * n + b.toNat) (256 * 0 + b.toNat) := rfl
  rw [e, numOf_acc, Nat.mul_zero, Nat.zero_add]
theorem numOf_digits (z : Nat) : ∀ m : Nat, Pl.numOf (Pl.digits z m) = m % 256 ^ z := by
  induction z with
  | zero => intro m; simp [Pl.digits, Pl.numOf, Nat.mod_one]
  | succ z ih =>
    intro m
    have e : (UInt8.ofNat (m / 256 ^ z % 256)).toNat = m / 256 ^ z % 256 := by rw [UInt8.toNat_ofNat']; omega
    rw [Pl.digits_succ, numOf_cons, ih, Pl.digits_length, e, Nat.pow_succ, Nat.mod_mul, Nat.mul_comm (256 ^ z) (m / 256 ^ z % 256), Nat.add_comm]
/-- A number read again. -/
theorem val_num {n : Int} {z : Nat} (h0 : 0 ≤ n) (hz : 1 ≤ z) (h7 : z ≤ 7) (h : n.toNat < 256 ^ z) : Pl.numVal (Pl.numOut n z) = n := by
  have hs := num_size h0 hz (by omega) h
  have h1 : Pl.sNum (Pl.numOut n z) = false := by simp only [Pl.sNum, hs, decide_eq_false_iff_not]; omega
  have h2 : Pl.fNum (Pl.numOut n z) = false := by
    have : decide (z = 8) = false := decide_eq_false (by omega)
    simp [Pl.fNum, hs, this]
  unfold Pl.numVal
  rw [h1, h2, num_ok h0 hz (by omega) h, Pl.txt_data, numOf_digits, Nat.mod_eq_of_lt h]
  simp
  omega
/-- The handle that bytes are. -/
def hno (s : ByteArray) : Int := if s.size = 7 then Pl.numVal (s.extract 0 1) else 0
def hgen (s : ByteArray) : Int := if s.size = 7 then Pl.numVal (s.extract 1 7) else 0
theorem hok_of {no gen : Int} (h : hokP no gen) : 0 ≤ no ∧ no.toNat < 256 ^ 1 ∧ 0 ≤ gen ∧ gen.toNat < 256 ^ 6 := by
  obtain ⟨⟨a, b⟩, c, d⟩ := h
  exact ⟨a, by omega, c, by omega⟩
theorem hbytes_size {no gen : Int} (h : hokP no gen) : (hbytes no gen).size = 7 := by
  obtain ⟨a, b, c, d⟩ := hok_of h
  unfold hbytes
  have h1 := num_size (z := 1) a (by omega) (by omega) b
  have h2 := num_size (z := 6) c (by omega) (by omega) d
  rw [ByteArray.size_append]
  have e1 : Pl.numOut no 1 = Pl.numOut no ((1 : Nat) : Int) := rfl
  have e2 : Pl.numOut gen 6 = Pl.numOut gen ((6 : Nat) : Int) := rfl
  rw [e1, e2, h1, h2]
theorem extract_left (a b : ByteArray) (n : Nat) (h : a.size = n) : (a ++ b).extract 0 n = a := by
  subst h
  rw [Pl.extract_txt]
  have : (a ++ b).data.toList = a.data.toList ++ b.data.toList := by simp [ByteArray.data_append]
  rw [this, List.drop_zero, List.take_append_of_le_length (by simp), List.take_of_length_le (by simp), Pl.txt_toList]
theorem extract_right (a b : ByteArray) (n m : Nat) (h : a.size = n) (hm : a.size + b.size ≤ m) : (a ++ b).extract n m = b := by
  subst h
  rw [Pl.extract_txt]
  have : (a ++ b).data.toList = a.data.toList ++ b.data.toList := by simp [ByteArray.data_append]
  have hl : a.size = a.data.toList.length := by simp
  rw [this, hl, List.drop_left, List.take_of_length_le (by simp; have : b.data.size = b.size := rfl; have h2 : a.data.size = a.size := rfl; omega), Pl.txt_toList]
theorem hback {no gen : Int} (h : hokP no gen) : hno (hbytes no gen) = no ∧ hgen (hbytes no gen) = gen := by
  have hs := hbytes_size h
  obtain ⟨a, b, c, d⟩ := hok_of h
  have h1 : (Pl.numOut no 1).size = 1 := num_size (z := 1) a (by omega) (by omega) b
  have h2 : (Pl.numOut gen 6).size = 6 := num_size (z := 6) c (by omega) (by omega) d
  unfold hno hgen
  rw [if_pos hs, if_pos hs]
  unfold hbytes
  rw [extract_left _ _ 1 h1, extract_right _ _ 1 7 h1 (by omega)]
  exact ⟨val_num (z := 1) a (by omega) (by omega) b, val_num (z := 6) c (by omega) (by omega) d⟩
/-- A call with what a field says. -/
def withF (c : Cl) (x : Int × ByteArray) : Cl :=
  if x.1 = 1 then { c with k := Pl.numVal x.2 }
  else if x.1 = 2 then { c with no := hno x.2, gen := hgen x.2 }
  else if x.1 = 3 then { c with no2 := hno x.2, gen2 := hgen x.2 }
  else if x.1 = 4 then { c with nm := x.2 }
  else if x.1 = 5 then { c with nm2 := x.2 }
  else if x.1 = 6 then { c with pl := Pl.numVal x.2 }
  else if x.1 = 7 then { c with n := Pl.numVal x.2 }
  else if x.1 = 8 then { c with data := x.2 }
  else c
def callOf (l : List (Int × ByteArray)) : Cl := l.foldl withF zero
/-- The value of a tag: the last one. -/
def lastOf (l : List (Int × ByteArray)) (t : Int) : ByteArray := l.foldl (fun s x => if x.1 = t then x.2 else s) ⟨#[]⟩
theorem lastOf_snoc (l : List (Int × ByteArray)) (x : Int × ByteArray) (t : Int) : lastOf (l ++ [x]) t = if x.1 = t then x.2 else lastOf l t := by simp [lastOf]
theorem callOf_snoc (l : List (Int × ByteArray)) (x : Int × ByteArray) : callOf (l ++ [x]) = withF (callOf l) x := by simp [callOf]
theorem rev_ind {α : Type} {p : List α → Prop} (h0 : p []) (h1 : ∀ l x, p l → p (l ++ [x])) (l : List α) : p l := by
  have : ∀ m : List α, p m.reverse := by
    intro m
    induction m with
    | nil => exact h0
    | cons x m ih => rw [List.reverse_cons]; exact h1 _ _ ih
  have := this l.reverse
  rwa [List.reverse_reverse] at this
/-- What Unpack answers. -/
def isCall (L : List UInt8) : Bool := decide (Pl.unpErr L = 0) && right (callOf (Pl.unpOut L)) && decide (Pl.encs (fields (callOf (Pl.unpOut L))) = L)
def unpC (L : List UInt8) : Cl := if isCall L then callOf (Pl.unpOut L) else zero
def unpE (L : List UInt8) : Int := if isCall L then 0 else 413
end Ak
namespace Ak
theorem packErr_snoc : ∀ (l : List (Int × ByteArray)) (last : Int) (y : Int × ByteArray), Pl.packErr last l = 0 → (∀ x ∈ l, x.1 ≤ y.1) → last ≤ y.1 → 1 ≤ y.1 → y.1 ≤ 255 → y.2.size ≤ 65535 → Pl.packErr last (l ++ [y]) = 0
  | [], last, y, _, _, h1, h2, h3, h4 => by
    have : Pl.badAt last y = 0 := by unfold Pl.badAt; rw [if_neg (by omega), if_neg (by omega), if_neg (by omega)]
    simp [Pl.packErr, this]
  | x :: l, last, y, hp, hx, h1, h2, h3, h4 => by
    have hb : Pl.badAt last x = 0 := by
      unfold Pl.packErr at hp
      split at hp
      · assumption
      · exact hp
    have hp' : Pl.packErr x.1 l = 0 := by
      unfold Pl.packErr at hp
      rwa [if_pos hb] at hp
    show Pl.packErr last (x :: (l ++ [y])) = 0
    unfold Pl.packErr
    rw [if_pos hb]
    exact packErr_snoc l x.1 y hp' (fun z hz => hx z (by simp [hz])) (hx x (by simp)) h2 h3 h4
/-- Fields that can be packed, whose tags are at most t, and whose bytes are at most n. -/
def Up (l : List (Int × ByteArray)) (t : Int) (n : Nat) : Prop := Pl.packErr 1 l = 0 ∧ (∀ x ∈ l, x.1 ≤ t) ∧ (Pl.encs l).length ≤ n
theorem Up.opt {l : List (Int × ByteArray)} {t u : Int} {n m : Nat} {b : Bool} {s : ByteArray} (h : Up l t n) (h1 : 1 ≤ t) (ht : t < u) (hu : u ≤ 255) (hs : s.size ≤ m) (hm : m ≤ 65535) : Up (l ++ opt b (u, s)) u (n + 3 + m) := by
  obtain ⟨h0, h2, h3⟩ := h
  unfold Ak.opt
  cases b with
  | true =>
    rw [if_pos rfl]
    refine ⟨packErr_snoc l 1 (u, s) h0 (fun x hx => ?_) ?_ ?_ ?_ ?_, ?_, ?_⟩
    · have := h2 x hx; simp only; omega
    · simp only; omega
    · simp only; omega
    · simp only; omega
    · simp only; omega
    · intro x hx
      rcases List.mem_append.1 hx with hx | hx
      · have := h2 x hx; omega
      · simp at hx; subst hx; simp
    · have e : Pl.encs (l ++ [(u, s)]) = Pl.encs l ++ Pl.encOne (u, s) := by simp [Pl.encs]
      have := Pl.encOne_length (u, s)
      rw [e, List.length_append]
      simp only at this
      omega
  | false =>
    rw [if_neg (by decide), List.append_nil]
    exact ⟨h0, fun x hx => by have := h2 x hx; omega, by omega⟩
theorem numOut_le (n z : Int) : (Pl.numOut n z).size ≤ 8 := by
  unfold Pl.numOut
  split
  · decide
  · rename_i h
    rw [Pl.txt_size, Pl.digits_length]
    unfold Pl.numBad at h
    simp at h
    omega
theorem hbytes_le (a b : Int) : (hbytes a b).size ≤ 16 := by
  have h1 := numOut_le a 1
  have h2 := numOut_le b 6
  unfold hbytes
  rw [ByteArray.size_append]
  omega
theorem up_one (c : Cl) : Up (f1 c) 1 11 := by
  have h := numOut_le c.k 1
  refine ⟨?_, ?_, ?_⟩
  · have : Pl.badAt 1 (1, Pl.numOut c.k 1) = 0 := by unfold Pl.badAt; simp only; rw [if_neg (by omega), if_neg (by omega), if_neg (by omega)]
    simp [f1, Pl.packErr, this]
  · intro x hx; simp [f1] at hx; subst hx; simp
  · have := Pl.encOne_length (1, Pl.numOut c.k 1)
    simp only at this
    simp only [f1, Pl.encs, List.flatMap_cons, List.flatMap_nil, List.append_nil]
    omega
theorem up_fields {c : Cl} (h : rightP c) : Up (fields c) 8 1700 := by
  obtain ⟨hk, hh, hh2, hn, hn2, hp, hnn, hd⟩ := h
  have a2 := (up_one c).opt (b := hnz c.no c.gen) (u := 2) (s := hbytes c.no c.gen) (by omega) (by omega) (by omega) (hbytes_le _ _) (by omega)
  have a3 := a2.opt (b := hnz c.no2 c.gen2) (u := 3) (s := hbytes c.no2 c.gen2) (by omega) (by omega) (by omega) (hbytes_le _ _) (by omega)
  have a4 := a3.opt (b := snz c.nm) (u := 4) (s := c.nm) (by omega) (by omega) (by omega) hn (by omega)
  have a5 := a4.opt (b := snz c.nm2) (u := 5) (s := c.nm2) (by omega) (by omega) (by omega) hn2 (by omega)
  have a6 := a5.opt (b := c.pl != 0) (u := 6) (s := Pl.numOut c.pl 4) (by omega) (by omega) (by omega) (numOut_le _ _) (by omega)
  have a7 := a6.opt (b := c.n != 0) (u := 7) (s := Pl.numOut c.n 2) (by omega) (by omega) (by omega) (numOut_le _ _) (by omega)
  have a8 := a7.opt (b := snz c.data) (u := 8) (s := c.data) (by omega) (by omega) (by omega) hd (by omega)
  exact ⟨a8.1, a8.2.1, Nat.le_trans a8.2.2 (by omega)⟩
theorem callOf_opt (l : List (Int × ByteArray)) (b : Bool) (x : Int × ByteArray) : callOf (l ++ opt b x) = if b then withF (callOf l) x else callOf l := by
  unfold opt
  cases b with
  | true => rw [if_pos rfl, if_pos rfl, callOf_snoc]
  | false => rw [if_neg (by decide), if_neg (by decide), List.append_nil]
theorem empty_of {s : ByteArray} (h : snz s = false) : s = ⟨#[]⟩ := by
  unfold snz at h
  rw [ByteArray.toList_eq] at h
  simp at h
  cases s
  simp at h
  rw [h]
theorem hz_of {no gen : Int} (h : hnz no gen = false) : no = 0 ∧ gen = 0 := by
  unfold hnz at h
  simp at h
  exact h
theorem callOf_fields {c : Cl} (h : rightP c) : callOf (fields c) = c := by
  obtain ⟨hk, hh, hh2, hn, hn2, hp, hnn, hd⟩ := h
  have g1 : callOf (f1 c) = ⟨c.k, 0, 0, 0, 0, ⟨#[]⟩, ⟨#[]⟩, 0, 0, ⟨#[]⟩⟩ := by
    have : Pl.numVal (Pl.numOut c.k 1) = c.k := val_num (z := 1) (by omega) (by omega) (by omega) (by omega)
    simp [callOf, f1, withF, zero, this]
  have g2 : callOf (f2 c) = ⟨c.k, c.no, c.gen, 0, 0, ⟨#[]⟩, ⟨#[]⟩, 0, 0, ⟨#[]⟩⟩ := by
    unfold f2
    rw [callOf_opt, g1]
    cases hz : hnz c.no c.gen with
    | true => rw [if_pos rfl]; obtain ⟨e1, e2⟩ := hback hh; simp [withF, e1, e2]
    | false => rw [if_neg (by decide)]; obtain ⟨e1, e2⟩ := hz_of hz; rw [e1, e2]
  have g3 : callOf (f3 c) = ⟨c.k, c.no, c.gen, c.no2, c.gen2, ⟨#[]⟩, ⟨#[]⟩, 0, 0, ⟨#[]⟩⟩ := by
    unfold f3
    rw [callOf_opt, g2]
    cases hz : hnz c.no2 c.gen2 with
    | true => rw [if_pos rfl]; obtain ⟨e1, e2⟩ := hback hh2; simp [withF, e1, e2]
    | false => rw [if_neg (by decide)]; obtain ⟨e1, e2⟩ := hz_of hz; rw [e1, e2]
  have g4 : callOf (f4 c) = ⟨c.k, c.no, c.gen, c.no2, c.gen2, c.nm, ⟨#[]⟩, 0, 0, ⟨#[]⟩⟩ := by
    unfold f4
    rw [callOf_opt, g3]
    cases hz : snz c.nm with
    | true => rw [if_pos rfl]; simp [withF]
    | false => rw [if_neg (by decide), empty_of hz]
  have g5 : callOf (f5 c) = ⟨c.k, c.no, c.gen, c.no2, c.gen2, c.nm, c.nm2, 0, 0, ⟨#[]⟩⟩ := by
    unfold f5
    rw [callOf_opt, g4]
    cases hz : snz c.nm2 with
    | true => rw [if_pos rfl]; simp [withF]
    | false => rw [if_neg (by decide), empty_of hz]
  have g6 : callOf (f6 c) = ⟨c.k, c.no, c.gen, c.no2, c.gen2, c.nm, c.nm2, c.pl, 0, ⟨#[]⟩⟩ := by
    unfold f6
    rw [callOf_opt, g5]
    cases hz : (c.pl != 0) with
    | true =>
      have : Pl.numVal (Pl.numOut c.pl 4) = c.pl := val_num (z := 4) (by omega) (by omega) (by omega) (by omega)
      rw [if_pos rfl]; simp [withF, this]
    | false => have : c.pl = 0 := by simpa using hz
               rw [if_neg (by decide), this]
  have g7 : callOf (f7 c) = ⟨c.k, c.no, c.gen, c.no2, c.gen2, c.nm, c.nm2, c.pl, c.n, ⟨#[]⟩⟩ := by
    unfold f7
    rw [callOf_opt, g6]
    cases hz : (c.n != 0) with
    | true =>
      have : Pl.numVal (Pl.numOut c.n 2) = c.n := val_num (z := 2) (by omega) (by omega) (by omega) (by omega)
      rw [if_pos rfl]; simp [withF, this]
    | false => have : c.n = 0 := by simpa using hz
               rw [if_neg (by decide), this]
  unfold fields
  rw [callOf_opt, g7]
  cases hz : snz c.data with
  | true => rw [if_pos rfl]; simp [withF]
  | false => have := empty_of hz; rw [if_neg (by decide)]; cases c; simp only at this; rw [this]
/-- What was packed is unpacked. -/
theorem back {c : Cl} (h : right c = true) : unpC (Pl.encs (fields c)) = c ∧ unpE (Pl.encs (fields c)) = 0 ∧ (Pl.encs (fields c)).length ≤ 1700 := by
  have hr := right_iff.1 h
  have hu := up_fields hr
  obtain ⟨e1, e2⟩ := Pl.unp_encs (fields c) hu.1
  have hc : isCall (Pl.encs (fields c)) = true := by
    unfold isCall
    rw [e1, e2, callOf_fields hr, h]
    simp
  refine ⟨?_, ?_, hu.2.2⟩
  · unfold unpC; rw [if_pos hc, e1, callOf_fields hr]
  · unfold unpE; rw [if_pos hc]
end Ak
end Go.Proofs.YtggoccfddnpelaaGreat.Ks
namespace Go.Proofs.YtggoccfddnpelaaGreat.Ks
open Go.ChangeShapes Go.WideShapes Go.ChangeAt Go.RowKit Go.Deep
set_option maxRecDepth 100000
theorem laidOut : laidOutB Tryz.prog = true := by kernel_rfl
theorem own : ownKnob Tryz.prog.godebug = none := by kernel_rfl
/-- string(b) of a slice of bytes whose cells are known, in whatever world. -/
theorem conv_bytes (W : World) (b len cap : Nat) (xs : List Int) (hlen : xs.length = len) (hcell : ∀ i, i < len → W.cell? ⟨b, i, none⟩ = some (.int .u8 (xs.getD i 0))) :
    (convert 101 9 (.slice (some ⟨b, 0, none⟩) len cap)).run Tryz.prog W = .ok (.string (Pl.txt (xs.map fun n => UInt8.ofNat n.toNat))) W :=
  run_convert_bytes_arg W 101 5 Tryz.underlying101 Tryz.underlying5 b 0 len cap xs hlen (fun i hi => by rw [Nat.zero_add]; exact hcell i hi) 9 Tryz.underlying9
set_option maxHeartbeats 400000 in
theorem byte_any (n : Int) (w : World) :
    Calls Tryz.prog 61 #[.int .i64 n] w fun e w' => e = .returned (.string (Pl.txt [UInt8.ofNat (n % 256).toNat])) ∧ Below w.heap.size w w' := by
  have hcv := conv_bytes (w.alloc (Obj.cells #[Value.int IntKind.u8 (n % 256)] 5)) w.heap.size 1 1 [n % 256] rfl (fun i hi => by
    obtain rfl : i = 0 := by omega
    simp)
  go_enter Tryz.func61, Tryz.ntmps61
  go_wp2
  go_ret
  exact ⟨rfl, (Below.refl _ _).alloc (Nat.le_refl _) _⟩
set_option maxHeartbeats 400000 in
theorem refNum_any (n size : Int) (w : World) (hn : n ≤ 9223372036854775807) :
    Calls Tryz.prog 59 #[.int .i64 n, .int .i64 size] w fun e w' => e = .returned (.tuple #[.string (Pl.numOut n size), .int .i64 (Pl.numErr n size)]) ∧ Below w.heap.size w w' := by
  by_cases h1 : size < 1
  · have hb : Pl.numBad n size = true := by simp [Pl.numBad, h1]
    have H : Hid (Pl.numOut n size = Pl.txt [] ∧ Pl.numErr n size = 1) := ⟨by simp [Pl.numOut, hb], by simp [Pl.numErr, hb]⟩
    clear hb
    go_enter Tryz.func59, Tryz.ntmps59
    go_wp2
    go_ret2
    rw [H.out.1, H.out.2]
    exact ⟨rfl, Below.refl _ _⟩
  by_cases h2 : 8 < size
  · have hb : Pl.numBad n size = true := by simp [Pl.numBad, h2]
    have H : Hid (Pl.numOut n size = Pl.txt [] ∧ Pl.numErr n size = 1) := ⟨by simp [Pl.numOut, hb], by simp [Pl.numErr, hb]⟩
    clear hb
    go_enter Tryz.func59, Tryz.ntmps59
    go_wp2
    go_ret2
    rw [H.out.1, H.out.2]
    exact ⟨rfl, Below.refl _ _⟩
  by_cases h3 : n < 0
  · have hb : Pl.numBad n size = true := by simp [Pl.numBad, h3]
    have H : Hid (Pl.numOut n size = Pl.txt [] ∧ Pl.numErr n size = 1) := ⟨by simp [Pl.numOut, hb], by simp [Pl.numErr, hb]⟩
    clear hb
    go_enter Tryz.func59, Tryz.ntmps59
    go_wp2
    go_ret2
    rw [H.out.1, H.out.2]
    exact ⟨rfl, Below.refl _ _⟩
  obtain ⟨m, rfl⟩ := Int.eq_ofNat_of_zero_le (show 0 ≤ n by omega)
  obtain ⟨z, rfl⟩ := Int.eq_ofNat_of_zero_le (show 0 ≤ size by omega)
  go_enter Tryz.func59, Tryz.ntmps59
  go_wp2
  go_loopw [0, 6, 7] (fun t s i wr => ∃ k : Nat, k ≤ z ∧ i = .int .i64 k ∧ t = .int .i64 ((m / 256 ^ k : Nat) : Int) ∧ s = .string (Pl.txt (Pl.digits k m)) ∧ Below w.heap.size w wr) (fun _ _ i _ => z - (intOf i).toNat)
  case atStart => exact ⟨0, Nat.zero_le _, rfl, by simp, rfl, Below.refl _ _⟩
  case round =>
    obtain ⟨k, hk, rfl, rfl, rfl, hbl⟩ := hrel
    obtain ⟨x, hx⟩ : ∃ x, m / 256 ^ k = x := ⟨_, rfl⟩
    have hxm : x ≤ m := by rw [← hx]; exact Nat.div_le_self _ _
    rw [hx]
    have HX : Hid (m / 256 ^ k = x) := hx
    clear hx
    by_cases hlt : k < z
    · go_wp2_with fail
      refine (byte_any _ _).mono ?_
      rintro e w' ⟨rfl, hb'⟩
      have hts := Pl.txt_size
      have hdl := Pl.digits_length
      go_wp2
      go_roundw
      case rel =>
        have hm := HX.out
        refine ⟨k + 1, by omega, by go_num, ?_, ?_, hbl.trans (hb'.mono hbl.size)⟩
        · have := Pl.div_step m k
          rw [Int.toNat_natCast, hm] at this
          rw [this]
        · rw [Pl.digits_succ, hm, Pl.txt_append]; rfl
      case measure => simp [intOf]; omega
    · obtain rfl : k = z := by omega
      by_cases h0 : x = 0
      · have hb : Pl.numBad m k = false := by simp [Pl.numBad, HX.out, h0]; omega
        have H : Hid (Pl.numOut m k = Pl.txt (Pl.digits k m) ∧ Pl.numErr m k = 0) := ⟨by simp [Pl.numOut, hb], by simp [Pl.numErr, hb]⟩
        clear hb
        have h0' : ¬ (0 : Int) < (x : Int) := by omega
        have H0 : Hid (x = 0) := h0
        clear h0
        go_wp2
        go_ret2
        rw [H.out.1, H.out.2]
        exact ⟨rfl, hbl⟩
      · have hb : Pl.numBad m k = true := by simp [Pl.numBad, HX.out, h0]
        have H : Hid (Pl.numOut m k = Pl.txt [] ∧ Pl.numErr m k = 1) := ⟨by simp [Pl.numOut, hb], by simp [Pl.numErr, hb]⟩
        clear hb
        have h0' : (0 : Int) < (x : Int) := by omega
        go_wp2
        go_ret2
        rw [H.out.1, H.out.2]
        exact ⟨rfl, hbl⟩
theorem info5 : (Tryz.prog.info? 5).map (fun i => (i.zero, i.size, i.bytes)) = some (some (.int .u8 0), 1, 1) := by kernel_rfl
def numRow (m z r q : Nat) : Value := .int .u8 (if r ≤ q then (m / 256 ^ (z - 1 - q) % 256 : Nat) else 0)
set_option maxHeartbeats 400000 in
theorem num_any (n size : Int) (w : World) (hn : n ≤ 9223372036854775807) :
    Calls Tryz.prog 45 #[.int .i64 n, .int .i64 size] w fun e w' => e = .returned (.tuple #[.string (Pl.numOut n size), .int .i64 (Pl.numErr n size)]) ∧ Below w.heap.size w w' := by
  by_cases h1 : size < 1
  · have hb : Pl.numBad n size = true := by simp [Pl.numBad, h1]
    have H : Hid (Pl.numOut n size = Pl.txt [] ∧ Pl.numErr n size = 1) := ⟨by simp [Pl.numOut, hb], by simp [Pl.numErr, hb]⟩
    clear hb
    go_enter Tryz.func45, Tryz.ntmps45
    go_wp2
    go_ret2
    rw [H.out.1, H.out.2]
    exact ⟨rfl, Below.refl _ _⟩
  by_cases h2 : 8 < size
  · have hb : Pl.numBad n size = true := by simp [Pl.numBad, h2]
    have H : Hid (Pl.numOut n size = Pl.txt [] ∧ Pl.numErr n size = 1) := ⟨by simp [Pl.numOut, hb], by simp [Pl.numErr, hb]⟩
    clear hb
    go_enter Tryz.func45, Tryz.ntmps45
    go_wp2
    go_ret2
    rw [H.out.1, H.out.2]
    exact ⟨rfl, Below.refl _ _⟩
  by_cases h3 : n < 0
  · have hb : Pl.numBad n size = true := by simp [Pl.numBad, h3]
    have H : Hid (Pl.numOut n size = Pl.txt [] ∧ Pl.numErr n size = 1) := ⟨by simp [Pl.numOut, hb], by simp [Pl.numErr, hb]⟩
    clear hb
    go_enter Tryz.func45, Tryz.ntmps45
    go_wp2
    go_ret2
    rw [H.out.1, H.out.2]
    exact ⟨rfl, Below.refl _ _⟩
  obtain ⟨m, rfl⟩ := Int.eq_ofNat_of_zero_le (show 0 ≤ n by omega)
  obtain ⟨z, rfl⟩ := Int.eq_ofNat_of_zero_le (show 0 ≤ size by omega)
  have hmk := run_make_row' (P := Tryz.prog) 101 5 (.int .u8 0) 1 Tryz.underlying101 info5 rfl .i64 .i64 z (by omega) (by omega)
  go_enter Tryz.func45, Tryz.ntmps45
  go_wp2
  go_loopw [0, 7] (fun t i wr => ∃ r : Nat, r ≤ z ∧ i = .int .i64 ((r : Int) - 1) ∧ t = .int .i64 ((m / 256 ^ (z - r) : Nat) : Int) ∧ wr.rowIs w.heap.size 5 z (numRow m z r) ∧ Below w.heap.size w wr) (fun _ i _ => (intOf i + 1).toNat)
  case atStart =>
    refine ⟨z, Nat.le_refl _, rfl, by simp, (World.rowIs_made w (.int .u8 0) z 5).congr fun q hq => ?_, (Below.refl _ _).alloc (Nat.le_refl _) _⟩
    simp [numRow, Nat.not_le.2 hq]
  case round =>
    obtain ⟨r, hr, rfl, rfl, hrow, hbl⟩ := hrel
    obtain ⟨x, hx⟩ : ∃ x, m / 256 ^ (z - r) = x := ⟨_, rfl⟩
    have hxm : x ≤ m := by rw [← hx]; exact Nat.div_le_self _ _
    rw [hx]
    have HX : Hid (m / 256 ^ (z - r) = x) := hx
    clear hx hmk
    match r, hr with
    | j + 1, hr =>
      have hj : ((j + 1 : Nat) : Int) - 1 = (j : Int) := by omega
      rw [hj]
      clear hj
      have hc := hrow.cell (i := j) (by omega)
      have hf := hrow.frozen j
      have H : Hid (wr.rowIs w.heap.size 5 z (numRow m z (j + 1))) := hrow
      clear hrow
      have hjz : j < z := by omega
      go_wp2
      go_roundw
      case rel =>
        have hm := HX.out
        refine ⟨j, by omega, rfl, ?_, (H.out.set j _).congr fun q hq => ?_, hbl.setCell (Nat.le_refl _) _⟩
        · have := Pl.div_step m (z - (j + 1))
          rw [Int.toNat_natCast, hm] at this
          rw [this, show z - (j + 1) + 1 = z - j from by omega]
        · unfold numRow
          by_cases hq1 : q = j
          · subst hq1
            rw [if_pos rfl, if_pos (Nat.le_refl _), show z - 1 - q = z - (q + 1) from by omega, hm]
            simp
          · rw [if_neg hq1]
            by_cases hq2 : j ≤ q
            · rw [if_pos hq2, if_pos (by omega)]
            · rw [if_neg hq2, if_neg (by omega)]
      case measure => simp [intOf]
    | 0, hr =>
      have hz0 : z - 0 = z := by omega
      by_cases h0 : x = 0
      · have hb : Pl.numBad m z = false := by
          have := HX.out
          rw [hz0] at this
          simp [Pl.numBad, this, h0]; omega
        have H : Hid (Pl.numOut m z = Pl.txt (Pl.digits z m) ∧ Pl.numErr m z = 0) := ⟨by simp [Pl.numOut, hb], by simp [Pl.numErr, hb]⟩
        clear hb
        have hcv := conv_bytes wr w.heap.size z z ((List.range z).map fun q => ((m / 256 ^ (z - 1 - q) % 256 : Nat) : Int)) (by simp) (fun i hi => by
          rw [hrow.cell hi]
          simp [numRow, hi, List.getD])
        rw [show List.map (fun n : Int => UInt8.ofNat n.toNat) ((List.range z).map fun q => ((m / 256 ^ (z - 1 - q) % 256 : Nat) : Int)) = Pl.digits z m from by simp only [List.map_map, Pl.digits]; exact List.map_congr_left fun q _ => by simp only [Function.comp, Int.toNat_natCast]] at hcv
        have h0' : ((x : Int) != 0) = false := by simp [h0]
        have H0 : Hid (x = 0) := h0
        clear h0
        go_wp2
        go_ret2
        rw [H.out.1, H.out.2]
        exact ⟨rfl, hbl⟩
      · have hb : Pl.numBad m z = true := by
          have := HX.out
          rw [hz0] at this
          simp [Pl.numBad, this, h0]
        have H : Hid (Pl.numOut m z = Pl.txt [] ∧ Pl.numErr m z = 1) := ⟨by simp [Pl.numOut, hb], by simp [Pl.numErr, hb]⟩
        clear hb
        have h0' : ((x : Int) != 0) = true := by simp [h0]
        go_wp2
        go_ret2
        rw [H.out.1, H.out.2]
        exact ⟨rfl, hbl⟩
end Go.Proofs.YtggoccfddnpelaaGreat.Ks
namespace Go.Proofs.YtggoccfddnpelaaGreat.Ks.Rs
open Go.ChangeShapes Go.WideShapes Go.ChangeAt Go.RowKit Go.Deep
set_option maxRecDepth 100000
open Go.Proofs.YtggoccfddnpelaaGreat.Ks.Ak
/-- Any world grown from w. -/
structure Grw (w : World) where
  out : World
  grown : w.grownBy out none
theorem grw_some (w : World) : Nonempty (Grw w) := ⟨⟨w, grown_refl _ _⟩⟩
/-- A region that only reads, and whose callees read and lay blocks of their own, walked once. -/
theorem wp_region_grw {P : Program} {id : Nat} {Q : Exit → Act → World → Prop} {a : Act} {w : World} {l : List Oper} (hm : P.follows .mixedOrders = true) (hB : Region.lexB .any l.toArray = true)
    (h : wpQuiet P l.toArray (fun w' => ∃ p : Grw w, w' = p.out) (fun a' => ∀ w', (∃ p : Grw w, w' = p.out) → Q .normal a' w') l a) : (Code.region id l.toArray true).wp P Q a w :=
  wp_region_quiet (C := fun w' => ∃ p : Grw w, w' = p.out) hm hB ⟨⟨w.drew, ⟨rfl, rfl, rfl, Nat.le_refl _, fun _ _ _ => rfl⟩⟩, rfl⟩ (by simpa using h)
theorem calls_grw {P : Program} {f : FuncId} {args : Array Value} {w W : World} {v : Value} (hg : w.grownBy W none)
    (h : Calls P f args W fun e w' => e = .returned v ∧ Below W.heap.size W w') : Calls P f args W fun e w'' => e = .returned v ∧ ∃ p : Grw w, w'' = p.out :=
  h.mono fun _ w' ⟨he, hw⟩ => ⟨he, ⟨w', grown_trans hg (grown_of_below hw none)⟩, rfl⟩
theorem Grw.below {w : World} (p : Grw w) : Below w.heap.size w p.out := below_none p.grown (Nat.le_refl _)
theorem cell_lt {w : World} {b j : Nat} {v : Value} (h : w.cell? ⟨b, j, none⟩ = some v) : b < w.heap.size := by
  rcases Nat.lt_or_ge b w.heap.size with h' | h'
  · exact h'
  · simp [World.cell?, Array.getElem?_eq_none h'] at h
theorem cell_step {w w' : World} {b j : Nat} {v : Value} (h : w.cell? ⟨b, j, none⟩ = some v) (hb : Below w.heap.size w w') : w'.cell? ⟨b, j, none⟩ = some v := (hb.cell (p := ⟨b, j, none⟩) (cell_lt h)).trans h
theorem Grw.cell {w : World} (p : Grw w) {b j : Nat} {v : Value} (h : w.cell? ⟨b, j, none⟩ = some v) : p.out.cell? ⟨b, j, none⟩ = some v := cell_step h p.below
theorem block_lt {w : World} {b : Nat} {o : Obj} (h : w.heap[b]? = some o) : b < w.heap.size := by
  rcases Nat.lt_or_ge b w.heap.size with h' | h'
  · exact h'
  · rw [Array.getElem?_eq_none h'] at h; cases h
theorem block_step {w w' : World} {b : Nat} {o : Obj} (h : w.heap[b]? = some o) (hb : Below w.heap.size w w') : w'.heap[b]? = some o := (hb.block b (block_lt h)).trans h
abbrev VH (no gen : Int) : Value := .agg #[.int .i64 no, .int .i64 gen]
abbrev BH (no gen : Int) : Obj := .cells #[.int .i64 no, .int .i64 gen] 55
theorem two_of {w : World} {b : Nat} {x y : Int} (h : w.heap[b]? = some (BH x y)) : w.cell? ⟨b, 0, none⟩ = some (.int .i64 x) ∧ w.cell? ⟨b, 1, none⟩ = some (.int .i64 y) := by
  refine ⟨?_, ?_⟩ <;> simp [World.cell?, h]
end Go.Proofs.YtggoccfddnpelaaGreat.Ks.Rs
