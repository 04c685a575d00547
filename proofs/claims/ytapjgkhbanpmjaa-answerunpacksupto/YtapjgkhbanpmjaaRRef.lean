/-
  The document's Bytes, Handle, field, Pack of replies: what they answer.
-/
import Derived.Test.YtapjgkhbanpmjaaRBase
import Derived.Test.YtapjgkhbanpmjaaRefPack
namespace Go.Proofs.Ytapjgkhbanpmjaa
open Go.ChangeShapes Go.WideShapes Go.ChangeAt Go.RowKit Go.Deep
open Ak

namespace Ak
def rhand (no gen : Int) : ByteArray := if hnz no gen then hbytes no gen else ⟨#[]⟩
theorem rhand_le (a b : Int) : (rhand a b).size ≤ 16 := by unfold rhand; split; exact hbytes_le a b; decide
theorem encs_opt (l : List (Int × ByteArray)) (b : Bool) (x : Int × ByteArray) : Pl.txt (Pl.encs (l ++ opt b x)) = Pl.txt (Pl.encs l) ++ (if b then Pl.txt (Pl.encOne x) else ⟨#[]⟩) := by
  unfold opt
  cases b with
  | true => rw [if_pos rfl, if_pos rfl, Pl.txt_append]; simp [Pl.encs]
  | false =>
    rw [if_neg (by decide), if_neg (by decide), List.append_nil]
    have := Pl.txt_append (Pl.encs l) []
    rw [List.append_nil] at this
    exact this.symm
end Ak
set_option maxRecDepth 100000 in
set_option maxHeartbeats 1000000 in
theorem rhand_is (no gen : Int) (w : World) (hn : no ≤ 9223372036854775807) (hg : gen ≤ 9223372036854775807) : Calls Try.prog 19 #[VH no gen] w fun e w' => e = .returned (.string (rhand no gen)) ∧ Below w.heap.size w w' := by
  have HB0 : Hid (Below w.heap.size w (w.alloc (BH no gen))) := (Below.refl _ _).alloc (Nat.le_refl _) _
  have HA0 : Hid ((w.alloc (BH no gen)).heap[w.heap.size]? = some (BH no gen)) := heap_alloc_new w _
  by_cases h : no = 0 ∧ gen = 0
  · have H : Hid (rhand no gen = ⟨#[]⟩) := by show rhand no gen = _; unfold rhand hnz; simp [h.1, h.2]
    rw [H.out]
    obtain ⟨rfl, rfl⟩ := h
    go_enter Try.func19, Try.ntmps19
    go_wp2
    go_ret
    exact ⟨rfl, HB0.out⟩
  · have H : Hid (rhand no gen = Pl.numOut no 1 ++ Pl.numOut gen 6) := by
      show rhand no gen = _
      have : hnz no gen = true := by
        unfold hnz
        simp
        omega
      unfold rhand
      rw [this, if_pos rfl]
      rfl
    have z1 := numOut_le no 1
    have z2 := numOut_le gen 6
    obtain ⟨y, hy⟩ : ∃ y, rhand no gen = y := ⟨_, rfl⟩
    rw [hy]
    rw [hy] at H
    clear hy
    by_cases h1 : no = 0
    · have h2' : (gen == 0) = false := by simpa using fun h2 => h ⟨h1, h2⟩
      have h1' : (no == 0) = true := by simpa using h1
      clear h h1
      go_enter Try.func19, Try.ntmps19
      go_wp2_with fail
      refine (refNum_any no 1 _ hn).mono ?_
      rintro e w1 ⟨rfl, hb1⟩
      have HB1 : Hid (Below w.heap.size w w1) := HB0.out.trans (hb1.mono HB0.out.size)
      obtain ⟨c0, c1⟩ := two_of (block_step HA0.out hb1)
      clear hb1
      go_wp2_with fail
      refine (refNum_any gen 6 _ hg).mono ?_
      rintro e w2 ⟨rfl, hb2⟩
      have HB2 : Hid (Below w.heap.size w w2) := HB1.out.trans (hb2.mono HB1.out.size)
      generalize Pl.numOut no 1 = n1 at *
      generalize Pl.numOut gen 6 = n2 at *
      go_wp2
      go_ret
      rw [H.out]
      exact ⟨rfl, HB2.out⟩
    · have h1' : (no == 0) = false := by simpa using h1
      clear h h1
      go_enter Try.func19, Try.ntmps19
      go_wp2_with fail
      refine (refNum_any no 1 _ hn).mono ?_
      rintro e w1 ⟨rfl, hb1⟩
      have HB1 : Hid (Below w.heap.size w w1) := HB0.out.trans (hb1.mono HB0.out.size)
      obtain ⟨c0, c1⟩ := two_of (block_step HA0.out hb1)
      clear hb1
      go_wp2_with fail
      refine (refNum_any gen 6 _ hg).mono ?_
      rintro e w2 ⟨rfl, hb2⟩
      have HB2 : Hid (Below w.heap.size w w2) := HB1.out.trans (hb2.mono HB1.out.size)
      generalize Pl.numOut no 1 = n1 at *
      generalize Pl.numOut gen 6 = n2 at *
      go_wp2
      go_ret
      rw [H.out]
      exact ⟨rfl, HB2.out⟩
theorem one_field (w : World) (t : Int) (s : ByteArray) (T : TypeId) : FieldsAt (w.alloc (.cells #[.int .i64 t, .string s] T)).heap.size (w.alloc (.cells #[.int .i64 t, .string s] T)) (.slice (some ⟨w.heap.size, 0, none⟩) 1 1) [(t, s)] := by
  refine .inr ⟨w.heap.size, 0, 1, rfl, by simp, by simp, by simp, by unfold maxLen; omega, fun i hi => ?_⟩
  obtain rfl : i = 0 := by simpa using hi
  exact ⟨by simp, by simp⟩
theorem bytes_is (n z : Int) (w : World) (hn : n ≤ 9223372036854775807) : Calls Try.prog 18 #[.int .i64 n, .int .i64 z] w fun e w' => e = .returned (.string (Pl.numOut n z)) ∧ Below w.heap.size w w' := by
  go_enter Try.func18, Try.ntmps18
  go_wp2_with fail
  refine (refNum_any n z _ hn).mono ?_
  rintro e w1 ⟨rfl, hb⟩
  go_wp2
  go_ret
  exact ⟨rfl, hb⟩
def Re.fl (t : Int) (s : ByteArray) (b : Bool) : ByteArray := if b then Pl.txt (Pl.encOne (t, s)) else ⟨#[]⟩
theorem Re.fl_le (t : Int) (s : ByteArray) (b : Bool) : (Re.fl t s b).size ≤ 3 + s.size := by
  unfold Re.fl
  split
  · rw [Pl.txt_size, Pl.encOne_length]; exact Nat.le_refl _
  · exact Nat.zero_le _
theorem field_is (t : Int) (s : ByteArray) (b : Bool) (w : World) (h1 : 1 ≤ t) (h2 : t ≤ 255) (hs : s.size ≤ 65535) : Calls Try.prog 17 #[.int .i64 t, .string s, .bool b] w fun e w' => e = .returned (.string (Re.fl t s b)) ∧ Below w.heap.size w w' := by
  cases b with
  | false =>
    have H : Hid (Re.fl t s false = ⟨#[]⟩) := rfl
    rw [H.out]
    go_enter Try.func17, Try.ntmps17
    go_wp2
    go_ret
    exact ⟨rfl, Below.refl _ _⟩
  | true =>
    have hb : Pl.packErr 1 [(t, s)] = 0 := by
      have : Pl.badAt 1 (t, s) = 0 := by unfold Pl.badAt; simp only; rw [if_neg (by omega), if_neg (by omega), if_neg (by omega)]
      simp [Pl.packErr, this]
    have H : Hid (Pl.packOut [(t, s)] = Re.fl t s true) := by
      show Pl.packOut [(t, s)] = _
      unfold Re.fl
      rw [Pl.packOut, hb, if_pos rfl, if_pos rfl]
      simp [Pl.encs]
    have HE : Hid ((Pl.encs [(t, s)]).length ≤ 1099511627776) := by
      have := Pl.encOne_length (t, s)
      show (Pl.encs [(t, s)]).length ≤ _
      simp only [Pl.encs, List.flatMap_cons, List.flatMap_nil, List.append_nil] at this ⊢
      omega
    clear hb
    go_enter Try.func17, Try.ntmps17
    go_wp2_with fail
    refine (refPack_any _ [(t, s)] _ (one_field w t s _) HE.out).mono ?_
    rintro e w1 ⟨rfl, hb1⟩
    rw [H.out]
    go_wp2
    go_ret
    exact ⟨rfl, ((Below.refl _ _).alloc (Nat.le_refl _) _).trans (hb1.mono (by simp))⟩
namespace Re
theorem fl_opt (l : List (Int × ByteArray)) (t : Int) (s : ByteArray) (b : Bool) : Pl.txt (Pl.encs (l ++ opt b (t, s))) = Pl.txt (Pl.encs l) ++ fl t s b := encs_opt l b (t, s)
theorem ref_four {r : Rep} (ha : At.right r.k r.l r.s r.t = true) : fl 1 (Pl.numOut r.e 2) (r.e != 0) ++ fl 2 (rhand r.no r.gen) (hnz r.no r.gen) ++ fl 3 (At.packOut r.k r.l r.s r.t) (r.k != 0) ++ fl 4 r.data (!r.data.toList.isEmpty) = Pl.txt (Pl.encs (f4 r)) := by
  have e1 : fl 1 (Pl.numOut r.e 2) (r.e != 0) = Pl.txt (Pl.encs (f1 r)) := by
    have := fl_opt [] 1 (Pl.numOut r.e 2) (r.e != 0)
    rw [List.nil_append] at this
    unfold f1
    rw [this]
    have : Pl.txt (Pl.encs []) = ⟨#[]⟩ := rfl
    rw [this, Pl.ba_nil]
  have e2 : fl 2 (rhand r.no r.gen) (hnz r.no r.gen) = fl 2 (hbytes r.no r.gen) (hnz r.no r.gen) := by
    unfold rhand fl
    cases hnz r.no r.gen <;> rfl
  have e3 : (r.k != 0) = anz r.k r.l r.s r.t := by
    have hp := At.right_iff.1 ha
    unfold At.rightP at hp
    unfold anz
    by_cases hk : r.k = 0
    · obtain ⟨h1, h2, h3⟩ : r.l = 0 ∧ r.s = 0 ∧ r.t = 0 := by omega
      simp [hk, h1, h2, h3]
    · have h1 : (r.k == 0) = false := by simpa using hk
      have h2 : (r.k != 0) = true := by simpa using hk
      rw [h1, h2]
      rfl
  rw [e1, e2, e3]
  unfold f4
  rw [fl_opt]
  unfold f3
  rw [fl_opt]
  unfold f2
  rw [fl_opt]
  rfl
theorem prefix_le {r : Rep} (h : rightP r) (k : Nat) : (Pl.encs (f4 r ++ ef (r.ents.take k))).length ≤ 4000 := by
  have hu := (up_fields h).2.2
  have e : fields r = (f4 r ++ ef (r.ents.take k)) ++ (ef (r.ents.drop k) ++ opt (r.n != 0) (6, Pl.numOut r.n 6)) := by
    have : ef r.ents = ef (r.ents.take k) ++ ef (r.ents.drop k) := by
      unfold ef
      rw [← List.map_append, List.take_append_drop]
    unfold fields f5
    rw [this]
    simp only [List.append_assoc]
  have e2 : ∀ a b : List (Int × ByteArray), Pl.encs (a ++ b) = Pl.encs a ++ Pl.encs b := fun a b => by unfold Pl.encs; rw [List.flatMap_append]
  rw [e, e2, List.length_append] at hu
  omega
theorem ents_step {r : Rep} {k : Nat} {x : Ent} (h : r.ents[k]? = some x) : Pl.txt (Pl.encs (f4 r ++ ef (r.ents.take (k + 1)))) = Pl.txt (Pl.encs (f4 r ++ ef (r.ents.take k))) ++ fl 5 (Pl.numOut x.2.1 6 ++ Pl.numOut x.2.2.1 1 ++ Pl.numOut x.2.2.2 6 ++ x.1) true := by
  obtain ⟨hk, rfl⟩ := List.getElem?_eq_some_iff.1 h
  have e : ef (r.ents.take (k + 1)) = ef (r.ents.take k) ++ opt true (5, ebytes r.ents[k]) := by
    rw [List.take_succ_eq_append_getElem hk]
    unfold ef opt
    rw [List.map_append]
    rfl
  rw [e, ← List.append_assoc, fl_opt]
  unfold ebytes hbytes
  rw [Pl.ba_assoc (Pl.numOut r.ents[k].2.1 6) (Pl.numOut r.ents[k].2.2.1 1) (Pl.numOut r.ents[k].2.2.2 6)]
theorem ref_last {r : Rep} (h : right r = true) : Pl.txt (Pl.encs (f5 r)) ++ fl 6 (Pl.numOut r.n 6) (r.n != 0) = packOut r := by
  unfold packOut
  rw [if_pos h]
  unfold fields
  rw [fl_opt]
end Re
end Go.Proofs.Ytapjgkhbanpmjaa
