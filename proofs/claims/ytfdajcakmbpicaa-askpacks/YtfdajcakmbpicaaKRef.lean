/-
  The document's Num, Handle, field, Pack of calls: what they answer.
-/
import Derived.Test.YtfdajcakmbpicaaKBase
import Derived.Test.YtfdajcakmbpicaaKBackP
import Derived.Test.YtfdajcakmbpicaaRefPack
namespace Go.Proofs.Ytfdajcakmbpicaa
open Go.ChangeShapes Go.WideShapes Go.ChangeAt Go.RowKit Go.Deep
open Ak

namespace Ak
def rnum (n z : Int) : ByteArray := if n = 0 then ⟨#[]⟩ else Pl.numOut n z
def rhand (no gen : Int) : ByteArray := if hnz no gen then hbytes no gen else ⟨#[]⟩
def fld (t : Int) (s : ByteArray) : ByteArray := if s.toList.isEmpty then ⟨#[]⟩ else Pl.txt (Pl.encOne (t, s))
theorem rnum_le (n z : Int) : (rnum n z).size ≤ 8 := by unfold rnum; split; decide; exact numOut_le n z
theorem rhand_le (a b : Int) : (rhand a b).size ≤ 16 := by unfold rhand; split; exact hbytes_le a b; decide
theorem fld_le (t : Int) (s : ByteArray) : (fld t s).size ≤ 3 + s.size := by
  unfold fld
  split
  · exact Nat.zero_le _
  · rw [Pl.txt_size, Pl.encOne_length]; exact Nat.le_refl _
theorem ne_of_size {s : ByteArray} (h : 0 < s.size) : s.toList.isEmpty = false := by
  rw [ByteArray.toList_eq, List.isEmpty_eq_false_iff]
  intro e
  have h2 : s.data.toList.length = 0 := by rw [e]; rfl
  have h3 : s.data.toList.length = s.size := by simp
  omega
theorem fld_some {t : Int} {s : ByteArray} (h : 0 < s.size) : fld t s = Pl.txt (Pl.encOne (t, s)) := by
  unfold fld
  rw [ne_of_size h]
  rfl
theorem fld_none (t : Int) : fld t ⟨#[]⟩ = ⟨#[]⟩ := by
  unfold fld
  rw [ByteArray.toList_eq]
  rfl
theorem encs_opt (l : List (Int × ByteArray)) (b : Bool) (x : Int × ByteArray) : Pl.txt (Pl.encs (l ++ opt b x)) = Pl.txt (Pl.encs l) ++ (if b then Pl.txt (Pl.encOne x) else ⟨#[]⟩) := by
  unfold opt
  cases b with
  | true => rw [if_pos rfl, if_pos rfl, Pl.txt_append]; simp [Pl.encs]
  | false =>
    rw [if_neg (by decide), if_neg (by decide), List.append_nil]
    have := Pl.txt_append (Pl.encs l) []
    rw [List.append_nil] at this
    exact this.symm
/-- The document's bytes of a right call are its fields' bytes. -/
theorem ref_bytes {c : Cl} (h : rightP c) : fld 1 (rnum c.k 1) ++ fld 2 (rhand c.no c.gen) ++ fld 3 (rhand c.no2 c.gen2) ++ fld 4 c.nm ++ fld 5 c.nm2 ++ fld 6 (rnum c.pl 4) ++ fld 7 (rnum c.n 2) ++ fld 8 c.data = packOut c := by
  have hr := right_iff.2 h
  obtain ⟨hk, hh, hh2, hn, hn2, hp, hnn, hd⟩ := h
  have e1 : fld 1 (rnum c.k 1) = Pl.txt (Pl.encs (f1 c)) := by
    have hz : (Pl.numOut c.k 1).size = 1 := num_size (z := 1) (by omega) (by omega) (by omega) (by omega)
    have hr : rnum c.k 1 = Pl.numOut c.k 1 := by unfold rnum; rw [if_neg (by omega)]
    rw [hr, fld_some (by omega)]
    simp [f1, Pl.encs]
  have eh : ∀ (t no gen : Int), hokP no gen → fld t (rhand no gen) = if hnz no gen then Pl.txt (Pl.encOne (t, hbytes no gen)) else ⟨#[]⟩ := by
    intro t no gen hg
    unfold rhand
    cases hnz no gen with
    | true => rw [if_pos rfl, if_pos rfl, fld_some (by rw [hbytes_size hg]; decide)]
    | false => exact fld_none t
  have es : ∀ (t : Int) (s : ByteArray), fld t s = if snz s then Pl.txt (Pl.encOne (t, s)) else ⟨#[]⟩ := by
    intro t s
    unfold fld snz
    cases s.toList.isEmpty <;> rfl
  have en : ∀ (t n : Int) (z : Nat), 0 ≤ n → 1 ≤ z → z ≤ 8 → n.toNat < 256 ^ z → fld t (rnum n z) = if (n != 0) then Pl.txt (Pl.encOne (t, Pl.numOut n z)) else ⟨#[]⟩ := by
    intro t n z h0 h1 h8 hlt
    unfold rnum
    by_cases hz : n = 0
    · have : (n != 0) = false := by simp [hz]
      rw [if_pos hz, this]
      exact fld_none t
    · have : (n != 0) = true := by simp [hz]
      rw [if_neg hz, this, if_pos rfl, fld_some (by rw [num_size h0 h1 h8 hlt]; omega)]
  have e6 := en 6 c.pl 4 (by omega) (by omega) (by omega) (by omega)
  have e7 := en 7 c.n 2 (by omega) (by omega) (by omega) (by omega)
  have w6 : ((4 : Nat) : Int) = 4 := rfl
  have w7 : ((2 : Nat) : Int) = 2 := rfl
  rw [w6] at e6
  rw [w7] at e7
  rw [e1, eh 2 _ _ hh, eh 3 _ _ hh2, es 4, es 5, e6, e7, es 8, packOut, if_pos hr]
  unfold fields
  rw [encs_opt]
  unfold f7
  rw [encs_opt]
  unfold f6
  rw [encs_opt]
  unfold f5
  rw [encs_opt]
  unfold f4
  rw [encs_opt]
  unfold f3
  rw [encs_opt]
  unfold f2
  rw [encs_opt]
end Ak

theorem rnum_is (n z : Int) (w : World) (hn : n ≤ 9223372036854775807) : Calls Try.prog 19 #[.int .i64 n, .int .i64 z] w fun e w' => e = .returned (.string (rnum n z)) ∧ Below w.heap.size w w' := by
  by_cases h : n = 0
  · have H : Hid (rnum n z = ⟨#[]⟩) := by show rnum n z = _; rw [rnum, if_pos h]
    rw [H.out]
    subst h
    go_enter Try.func19, Try.ntmps19
    go_wp2
    go_ret
    exact ⟨rfl, Below.refl _ _⟩
  · have H : Hid (rnum n z = Pl.numOut n z) := by show rnum n z = _; rw [rnum, if_neg h]
    rw [H.out]
    have h' : (n == 0) = false := by simpa using h
    go_enter Try.func19, Try.ntmps19
    go_wp2_with fail
    refine (refNum_any n z _ hn).mono ?_
    rintro e w1 ⟨rfl, hb⟩
    go_wp2
    go_ret
    exact ⟨rfl, hb⟩
set_option maxHeartbeats 1000000 in
theorem rhand_is (no gen : Int) (w : World) (hn : no ≤ 9223372036854775807) (hg : gen ≤ 9223372036854775807) : Calls Try.prog 20 #[VH no gen] w fun e w' => e = .returned (.string (rhand no gen)) ∧ Below w.heap.size w w' := by
  have HB0 : Hid (Below w.heap.size w (w.alloc (BH no gen))) := (Below.refl _ _).alloc (Nat.le_refl _) _
  have HA0 : Hid ((w.alloc (BH no gen)).heap[w.heap.size]? = some (BH no gen)) := heap_alloc_new w _
  by_cases h : no = 0 ∧ gen = 0
  · have H : Hid (rhand no gen = ⟨#[]⟩) := by show rhand no gen = _; unfold rhand hnz; simp [h.1, h.2]
    rw [H.out]
    obtain ⟨rfl, rfl⟩ := h
    go_enter Try.func20, Try.ntmps20
    go_wp2
    go_ret
    exact ⟨rfl, HB0.out⟩
  · have H : Hid (rhand no gen = Pl.numOut no 1 ++ Pl.numOut gen 6) := by
      show rhand no gen = _
      have : hnz no gen = true := by
        unfold hnz
        simp
        omega
      unfold rhand
      rw [this, if_pos rfl]
      rfl
    have z1 := numOut_le no 1
    have z2 := numOut_le gen 6
    obtain ⟨y, hy⟩ : ∃ y, rhand no gen = y := ⟨_, rfl⟩
    rw [hy]
    rw [hy] at H
    clear hy
    by_cases h1 : no = 0
    · have h2' : (gen == 0) = false := by simpa using fun h2 => h ⟨h1, h2⟩
      have h1' : (no == 0) = true := by simpa using h1
      clear h h1
      go_enter Try.func20, Try.ntmps20
      go_wp2_with fail
      refine (refNum_any no 1 _ hn).mono ?_
      rintro e w1 ⟨rfl, hb1⟩
      have HB1 : Hid (Below w.heap.size w w1) := HB0.out.trans (hb1.mono HB0.out.size)
      obtain ⟨c0, c1⟩ := two_of (block_step HA0.out hb1)
      clear hb1
      go_wp2_with fail
      refine (refNum_any gen 6 _ hg).mono ?_
      rintro e w2 ⟨rfl, hb2⟩
      have HB2 : Hid (Below w.heap.size w w2) := HB1.out.trans (hb2.mono HB1.out.size)
      generalize Pl.numOut no 1 = n1 at *
      generalize Pl.numOut gen 6 = n2 at *
      go_wp2
      go_ret
      rw [H.out]
      exact ⟨rfl, HB2.out⟩
    · have h1' : (no == 0) = false := by simpa using h1
      clear h h1
      go_enter Try.func20, Try.ntmps20
      go_wp2_with fail
      refine (refNum_any no 1 _ hn).mono ?_
      rintro e w1 ⟨rfl, hb1⟩
      have HB1 : Hid (Below w.heap.size w w1) := HB0.out.trans (hb1.mono HB0.out.size)
      obtain ⟨c0, c1⟩ := two_of (block_step HA0.out hb1)
      clear hb1
      go_wp2_with fail
      refine (refNum_any gen 6 _ hg).mono ?_
      rintro e w2 ⟨rfl, hb2⟩
      have HB2 : Hid (Below w.heap.size w w2) := HB1.out.trans (hb2.mono HB1.out.size)
      generalize Pl.numOut no 1 = n1 at *
      generalize Pl.numOut gen 6 = n2 at *
      go_wp2
      go_ret
      rw [H.out]
      exact ⟨rfl, HB2.out⟩
theorem one_field (w : World) (t : Int) (s : ByteArray) (T : TypeId) : FieldsAt (w.alloc (.cells #[.int .i64 t, .string s] T)).heap.size (w.alloc (.cells #[.int .i64 t, .string s] T)) (.slice (some ⟨w.heap.size, 0, none⟩) 1 1) [(t, s)] := by
  refine .inr ⟨w.heap.size, 0, 1, rfl, by simp, by simp, by simp, by unfold maxLen; omega, fun i hi => ?_⟩
  obtain rfl : i = 0 := by simpa using hi
  exact ⟨by simp, by simp⟩
theorem field_is (t : Int) (s : ByteArray) (w : World) (h1 : 1 ≤ t) (h2 : t ≤ 255) (hs : s.size ≤ 65535) : Calls Try.prog 18 #[.int .i64 t, .string s] w fun e w' => e = .returned (.string (fld t s)) ∧ Below w.heap.size w w' := by
  cases h : s.toList.isEmpty with
  | true =>
    have H : Hid (fld t s = ⟨#[]⟩) := by show fld t s = _; unfold fld; rw [h]; rfl
    rw [H.out]
    go_enter Try.func18, Try.ntmps18
    go_wp2
    go_ret
    exact ⟨rfl, Below.refl _ _⟩
  | false =>
    have hb : Pl.packErr 1 [(t, s)] = 0 := by
      have : Pl.badAt 1 (t, s) = 0 := by unfold Pl.badAt; simp only; rw [if_neg (by omega), if_neg (by omega), if_neg (by omega)]
      simp [Pl.packErr, this]
    have H : Hid (Pl.packOut [(t, s)] = fld t s) := by
      show Pl.packOut [(t, s)] = _
      unfold fld
      rw [h, Pl.packOut, hb, if_pos rfl, if_neg (by decide)]
      simp [Pl.encs]
    have HE : Hid ((Pl.encs [(t, s)]).length ≤ 1099511627776) := by
      have := Pl.encOne_length (t, s)
      show (Pl.encs [(t, s)]).length ≤ _
      simp only [Pl.encs, List.flatMap_cons, List.flatMap_nil, List.append_nil] at this ⊢
      omega
    clear hb
    go_enter Try.func18, Try.ntmps18
    go_wp2_with fail
    refine (refPack_any _ [(t, s)] _ (one_field w t s _) HE.out).mono ?_
    rintro e w1 ⟨rfl, hb1⟩
    rw [H.out]
    go_wp2
    go_ret
    exact ⟨rfl, ((Below.refl _ _).alloc (Nat.le_refl _) _).trans (hb1.mono (by simp))⟩
set_option maxHeartbeats 4000000 in
theorem askRefPack_any (c : Cl) (w : World) : Calls Try.prog 7 #[VC c] w fun e w' => e = .returned (.tuple #[.string (packOut c), .int .i64 (packErr c)]) ∧ Below w.heap.size w w' := by
  by_cases hr : rightP c
  · have HC : Hid (right c = true) := right_iff.2 hr
    have HO : Hid (fld 1 (rnum c.k 1) ++ fld 2 (rhand c.no c.gen) ++ fld 3 (rhand c.no2 c.gen2) ++ fld 4 c.nm ++ fld 5 c.nm2 ++ fld 6 (rnum c.pl 4) ++ fld 7 (rnum c.n 2) ++ fld 8 c.data = packOut c ∧ packErr c = 0) := ⟨ref_bytes hr, by rw [packErr, if_pos (right_iff.2 hr)]⟩
    obtain ⟨hk, ⟨hh1, hh2⟩, ⟨hh3, hh4⟩, hn, hn2, hp, hnn, hd⟩ := hr
    obtain ⟨a1, ha1⟩ : ∃ a, rnum c.k 1 = a := ⟨_, rfl⟩
    obtain ⟨a2, ha2⟩ : ∃ a, rhand c.no c.gen = a := ⟨_, rfl⟩
    obtain ⟨a3, ha3⟩ : ∃ a, rhand c.no2 c.gen2 = a := ⟨_, rfl⟩
    obtain ⟨a6, ha6⟩ : ∃ a, rnum c.pl 4 = a := ⟨_, rfl⟩
    obtain ⟨a7, ha7⟩ : ∃ a, rnum c.n 2 = a := ⟨_, rfl⟩
    have s1 := rnum_le c.k 1
    have s2 := rhand_le c.no c.gen
    have s3 := rhand_le c.no2 c.gen2
    have s6 := rnum_le c.pl 4
    have s7 := rnum_le c.n 2
    rw [ha1] at s1
    rw [ha2] at s2
    rw [ha3] at s3
    rw [ha6] at s6
    rw [ha7] at s7
    rw [ha1, ha2, ha3, ha6, ha7] at HO
    obtain ⟨b1, hb1⟩ : ∃ b, fld 1 a1 = b := ⟨_, rfl⟩
    obtain ⟨b2, hb2⟩ : ∃ b, fld 2 a2 = b := ⟨_, rfl⟩
    obtain ⟨b3, hb3⟩ : ∃ b, fld 3 a3 = b := ⟨_, rfl⟩
    obtain ⟨b4, hb4⟩ : ∃ b, fld 4 c.nm = b := ⟨_, rfl⟩
    obtain ⟨b5, hb5⟩ : ∃ b, fld 5 c.nm2 = b := ⟨_, rfl⟩
    obtain ⟨b6, hb6⟩ : ∃ b, fld 6 a6 = b := ⟨_, rfl⟩
    obtain ⟨b7, hb7⟩ : ∃ b, fld 7 a7 = b := ⟨_, rfl⟩
    obtain ⟨b8, hb8⟩ : ∃ b, fld 8 c.data = b := ⟨_, rfl⟩
    have t1 := fld_le 1 a1
    have t2 := fld_le 2 a2
    have t3 := fld_le 3 a3
    have t4 := fld_le 4 c.nm
    have t5 := fld_le 5 c.nm2
    have t6 := fld_le 6 a6
    have t7 := fld_le 7 a7
    have t8 := fld_le 8 c.data
    rw [hb1] at t1
    rw [hb2] at t2
    rw [hb3] at t3
    rw [hb4] at t4
    rw [hb5] at t5
    rw [hb6] at t6
    rw [hb7] at t7
    rw [hb8] at t8
    rw [hb1, hb2, hb3, hb4, hb5, hb6, hb7, hb8] at HO
    have q2 : ¬ 9223372036854775807 < b1.size + b2.size := by omega
    have q3 : ¬ 9223372036854775807 < b1.size + b2.size + b3.size := by omega
    have q4 : ¬ 9223372036854775807 < b1.size + b2.size + b3.size + b4.size := by omega
    have q5 : ¬ 9223372036854775807 < b1.size + b2.size + b3.size + b4.size + b5.size := by omega
    have q6 : ¬ 9223372036854775807 < b1.size + b2.size + b3.size + b4.size + b5.size + b6.size := by omega
    have q7 : ¬ 9223372036854775807 < b1.size + b2.size + b3.size + b4.size + b5.size + b6.size + b7.size := by omega
    have q8 : ¬ 9223372036854775807 < b1.size + b2.size + b3.size + b4.size + b5.size + b6.size + b7.size + b8.size := by omega
    have HN1 : Hid (∀ V, Calls Try.prog 19 #[.int .i64 c.k, .int .i64 1] V fun e w' => e = .returned (.string a1) ∧ Below V.heap.size V w') := fun V => by rw [← ha1]; exact rnum_is c.k 1 V (by omega)
    have HN6 : Hid (∀ V, Calls Try.prog 19 #[.int .i64 c.pl, .int .i64 4] V fun e w' => e = .returned (.string a6) ∧ Below V.heap.size V w') := fun V => by rw [← ha6]; exact rnum_is c.pl 4 V (by omega)
    have HN7 : Hid (∀ V, Calls Try.prog 19 #[.int .i64 c.n, .int .i64 2] V fun e w' => e = .returned (.string a7) ∧ Below V.heap.size V w') := fun V => by rw [← ha7]; exact rnum_is c.n 2 V (by omega)
    have HN2 : Hid (∀ V, Calls Try.prog 20 #[VH c.no c.gen] V fun e w' => e = .returned (.string a2) ∧ Below V.heap.size V w') := fun V => by rw [← ha2]; exact rhand_is c.no c.gen V (by omega) (by omega)
    have HN3 : Hid (∀ V, Calls Try.prog 20 #[VH c.no2 c.gen2] V fun e w' => e = .returned (.string a3) ∧ Below V.heap.size V w') := fun V => by rw [← ha3]; exact rhand_is c.no2 c.gen2 V (by omega) (by omega)
    have HF1 : Hid (∀ V, Calls Try.prog 18 #[.int .i64 1, .string a1] V fun e w' => e = .returned (.string b1) ∧ Below V.heap.size V w') := fun V => by rw [← hb1]; exact field_is 1 a1 V (by omega) (by omega) (by omega)
    have HF2 : Hid (∀ V, Calls Try.prog 18 #[.int .i64 2, .string a2] V fun e w' => e = .returned (.string b2) ∧ Below V.heap.size V w') := fun V => by rw [← hb2]; exact field_is 2 a2 V (by omega) (by omega) (by omega)
    have HF3 : Hid (∀ V, Calls Try.prog 18 #[.int .i64 3, .string a3] V fun e w' => e = .returned (.string b3) ∧ Below V.heap.size V w') := fun V => by rw [← hb3]; exact field_is 3 a3 V (by omega) (by omega) (by omega)
    have HF4 : Hid (∀ V, Calls Try.prog 18 #[.int .i64 4, .string c.nm] V fun e w' => e = .returned (.string b4) ∧ Below V.heap.size V w') := fun V => by rw [← hb4]; exact field_is 4 c.nm V (by omega) (by omega) (by omega)
    have HF5 : Hid (∀ V, Calls Try.prog 18 #[.int .i64 5, .string c.nm2] V fun e w' => e = .returned (.string b5) ∧ Below V.heap.size V w') := fun V => by rw [← hb5]; exact field_is 5 c.nm2 V (by omega) (by omega) (by omega)
    have HF6 : Hid (∀ V, Calls Try.prog 18 #[.int .i64 6, .string a6] V fun e w' => e = .returned (.string b6) ∧ Below V.heap.size V w') := fun V => by rw [← hb6]; exact field_is 6 a6 V (by omega) (by omega) (by omega)
    have HF7 : Hid (∀ V, Calls Try.prog 18 #[.int .i64 7, .string a7] V fun e w' => e = .returned (.string b7) ∧ Below V.heap.size V w') := fun V => by rw [← hb7]; exact field_is 7 a7 V (by omega) (by omega) (by omega)
    have HF8 : Hid (∀ V, Calls Try.prog 18 #[.int .i64 8, .string c.data] V fun e w' => e = .returned (.string b8) ∧ Below V.heap.size V w') := fun V => by rw [← hb8]; exact field_is 8 c.data V (by omega) (by omega) (by omega)
    clear ha1 ha2 ha3 ha6 ha7 hb1 hb2 hb3 hb4 hb5 hb6 hb7 hb8 hk hh1 hh2 hh3 hh4 hn hn2 hp hnn hd s1 s2 s3 s6 s7 t1 t2 t3 t4 t5 t6 t7 t8
    go_enter Try.func7, Try.ntmps7
    go_wp2_with fail
    refine (rright_is c _ true HC).mono ?_
    rintro e w1 ⟨rfl, hb1⟩
    have HB1 : Hid (Below w.heap.size w w1) := ((Below.refl _ _).alloc (Nat.le_refl _) _).trans (hb1.mono (by simp))
    obtain ⟨d0, d1, d2, d3, d4, d5, d6, d7, d8, d9⟩ := ten_of (block_step (heap_alloc_new w (BC c)) hb1)
    have e0 := fun p : Grw w1 => p.cell d0
    have e1 := fun p : Grw w1 => p.cell d1
    have e2 := fun p : Grw w1 => p.cell d2
    have e3 := fun p : Grw w1 => p.cell d3
    have e4 := fun p : Grw w1 => p.cell d4
    have e5 := fun p : Grw w1 => p.cell d5
    have e6 := fun p : Grw w1 => p.cell d6
    have e7 := fun p : Grw w1 => p.cell d7
    have e8 := fun p : Grw w1 => p.cell d8
    have e9 := fun p : Grw w1 => p.cell d9
    clear hb1 d0 d1 d2 d3 d4 d5 d6 d7 d8 d9
    have hne9 : Nonempty (Grw w1) := grw_some w1
    go_wp2_with fail
    refine wp_region_grw (by kernel_rfl) (by kernel_rfl) ?_
    repeat (go_big_quiet_step (first
      | (go_at_call 19; with_reducible refine calls_grw (Grw.grown _) (HN1.out _))
      | (go_at_call 19; with_reducible refine calls_grw (Grw.grown _) (HN6.out _))
      | (go_at_call 19; with_reducible refine calls_grw (Grw.grown _) (HN7.out _))
      | (go_at_call 20; with_reducible refine calls_grw (Grw.grown _) (HN2.out _))
      | (go_at_call 20; with_reducible refine calls_grw (Grw.grown _) (HN3.out _))
      | (go_at_call 18; with_reducible refine calls_grw (Grw.grown _) (HF1.out _))
      | (go_at_call 18; with_reducible refine calls_grw (Grw.grown _) (HF2.out _))
      | (go_at_call 18; with_reducible refine calls_grw (Grw.grown _) (HF3.out _))
      | (go_at_call 18; with_reducible refine calls_grw (Grw.grown _) (HF4.out _))
      | (go_at_call 18; with_reducible refine calls_grw (Grw.grown _) (HF5.out _))
      | (go_at_call 18; with_reducible refine calls_grw (Grw.grown _) (HF6.out _))
      | (go_at_call 18; with_reducible refine calls_grw (Grw.grown _) (HF7.out _))
      | (go_at_call 18; with_reducible refine calls_grw (Grw.grown _) (HF8.out _))))
    rintro w9 ⟨p9, rfl⟩
    have HB : Hid (Below w.heap.size w p9.out) := HB1.out.trans (p9.below.mono HB1.out.size)
    go_wp2
    go_ret2
    rw [← HO.out.1, HO.out.2]
    exact ⟨rfl, HB.out⟩
  · have HC : Hid (right c = false) := wrong_iff.2 hr
    have HO : Hid (packOut c = ⟨#[]⟩ ∧ packErr c = 413) := ⟨by simp [packOut, HC.out], by simp [packErr, HC.out]⟩
    clear hr
    go_enter Try.func7, Try.ntmps7
    go_wp2_with fail
    refine (rright_is c _ false HC).mono ?_
    rintro e w1 ⟨rfl, hb1⟩
    have HB1 : Hid (Below w.heap.size w w1) := ((Below.refl _ _).alloc (Nat.le_refl _) _).trans (hb1.mono (by simp))
    go_wp2
    go_ret2
    rw [HO.out.1, HO.out.2]
    exact ⟨rfl, HB1.out⟩
end Go.Proofs.Ytfdajcakmbpicaa
