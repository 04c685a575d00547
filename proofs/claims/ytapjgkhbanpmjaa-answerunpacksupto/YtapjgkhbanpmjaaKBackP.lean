/-
  Plain facts (no program): a right call's fields can be packed, are few, and say the call.
-/
import Derived.Test.YtapjgkhbanpmjaaKPlain
namespace Go.Proofs.Ytapjgkhbanpmjaa
namespace Ak

theorem packErr_snoc : ∀ (l : List (Int × ByteArray)) (last : Int) (y : Int × ByteArray), Pl.packErr last l = 0 → (∀ x ∈ l, x.1 ≤ y.1) → last ≤ y.1 → 1 ≤ y.1 → y.1 ≤ 255 → y.2.size ≤ 65535 → Pl.packErr last (l ++ [y]) = 0
  | [], last, y, _, _, h1, h2, h3, h4 => by
    have : Pl.badAt last y = 0 := by unfold Pl.badAt; rw [if_neg (by omega), if_neg (by omega), if_neg (by omega)]
    simp [Pl.packErr, this]
  | x :: l, last, y, hp, hx, h1, h2, h3, h4 => by
    have hb : Pl.badAt last x = 0 := by
      unfold Pl.packErr at hp
      split at hp
      · assumption
      · exact hp
    have hp' : Pl.packErr x.1 l = 0 := by
      unfold Pl.packErr at hp
      rwa [if_pos hb] at hp
    show Pl.packErr last (x :: (l ++ [y])) = 0
    unfold Pl.packErr
    rw [if_pos hb]
    exact packErr_snoc l x.1 y hp' (fun z hz => hx z (by simp [hz])) (hx x (by simp)) h2 h3 h4
/-- Fields that can be packed, whose tags are at most t, and whose bytes are at most n. -/
def Up (l : List (Int × ByteArray)) (t : Int) (n : Nat) : Prop := Pl.packErr 1 l = 0 ∧ (∀ x ∈ l, x.1 ≤ t) ∧ (Pl.encs l).length ≤ n
theorem Up.opt {l : List (Int × ByteArray)} {t u : Int} {n m : Nat} {b : Bool} {s : ByteArray} (h : Up l t n) (h1 : 1 ≤ t) (ht : t < u) (hu : u ≤ 255) (hs : s.size ≤ m) (hm : m ≤ 65535) : Up (l ++ opt b (u, s)) u (n + 3 + m) := by
  obtain ⟨h0, h2, h3⟩ := h
  unfold Ak.opt
  cases b with
  | true =>
    rw [if_pos rfl]
    refine ⟨packErr_snoc l 1 (u, s) h0 (fun x hx => ?_) ?_ ?_ ?_ ?_, ?_, ?_⟩
    · have := h2 x hx; simp only; omega
    · simp only; omega
    · simp only; omega
    · simp only; omega
    · simp only; omega
    · intro x hx
      rcases List.mem_append.1 hx with hx | hx
      · have := h2 x hx; omega
      · simp at hx; subst hx; simp
    · have e : Pl.encs (l ++ [(u, s)]) = Pl.encs l ++ Pl.encOne (u, s) := by simp [Pl.encs]
      have := Pl.encOne_length (u, s)
      rw [e, List.length_append]
      simp only at this
      omega
  | false =>
    rw [if_neg (by decide), List.append_nil]
    exact ⟨h0, fun x hx => by have := h2 x hx; omega, by omega⟩
theorem numOut_le (n z : Int) : (Pl.numOut n z).size ≤ 8 := by
  unfold Pl.numOut
  split
  · decide
  · rename_i h
    rw [Pl.txt_size, Pl.digits_length]
    unfold Pl.numBad at h
    simp at h
    omega
theorem hbytes_le (a b : Int) : (hbytes a b).size ≤ 16 := by
  have h1 := numOut_le a 1
  have h2 := numOut_le b 6
  unfold hbytes
  rw [ByteArray.size_append]
  omega
theorem up_one (c : Cl) : Up (f1 c) 1 11 := by
  have h := numOut_le c.k 1
  refine ⟨?_, ?_, ?_⟩
  · have : Pl.badAt 1 (1, Pl.numOut c.k 1) = 0 := by unfold Pl.badAt; simp only; rw [if_neg (by omega), if_neg (by omega), if_neg (by omega)]
    simp [f1, Pl.packErr, this]
  · intro x hx; simp [f1] at hx; subst hx; simp
  · have := Pl.encOne_length (1, Pl.numOut c.k 1)
    simp only at this
    simp only [f1, Pl.encs, List.flatMap_cons, List.flatMap_nil, List.append_nil]
    omega
theorem up_fields {c : Cl} (h : rightP c) : Up (fields c) 8 1700 := by
  obtain ⟨hk, hh, hh2, hn, hn2, hp, hnn, hd⟩ := h
  have a2 := (up_one c).opt (b := hnz c.no c.gen) (u := 2) (s := hbytes c.no c.gen) (by omega) (by omega) (by omega) (hbytes_le _ _) (by omega)
  have a3 := a2.opt (b := hnz c.no2 c.gen2) (u := 3) (s := hbytes c.no2 c.gen2) (by omega) (by omega) (by omega) (hbytes_le _ _) (by omega)
  have a4 := a3.opt (b := snz c.nm) (u := 4) (s := c.nm) (by omega) (by omega) (by omega) hn (by omega)
  have a5 := a4.opt (b := snz c.nm2) (u := 5) (s := c.nm2) (by omega) (by omega) (by omega) hn2 (by omega)
  have a6 := a5.opt (b := c.pl != 0) (u := 6) (s := Pl.numOut c.pl 4) (by omega) (by omega) (by omega) (numOut_le _ _) (by omega)
  have a7 := a6.opt (b := c.n != 0) (u := 7) (s := Pl.numOut c.n 2) (by omega) (by omega) (by omega) (numOut_le _ _) (by omega)
  have a8 := a7.opt (b := snz c.data) (u := 8) (s := c.data) (by omega) (by omega) (by omega) hd (by omega)
  exact ⟨a8.1, a8.2.1, Nat.le_trans a8.2.2 (by omega)⟩

theorem callOf_opt (l : List (Int × ByteArray)) (b : Bool) (x : Int × ByteArray) : callOf (l ++ opt b x) = if b then withF (callOf l) x else callOf l := by
  unfold opt
  cases b with
  | true => rw [if_pos rfl, if_pos rfl, callOf_snoc]
  | false => rw [if_neg (by decide), if_neg (by decide), List.append_nil]
theorem empty_of {s : ByteArray} (h : snz s = false) : s = ⟨#[]⟩ := by
  unfold snz at h
  rw [ByteArray.toList_eq] at h
  simp at h
  cases s
  simp at h
  rw [h]
theorem hz_of {no gen : Int} (h : hnz no gen = false) : no = 0 ∧ gen = 0 := by
  unfold hnz at h
  simp at h
  exact h
theorem callOf_fields {c : Cl} (h : rightP c) : callOf (fields c) = c := by
  obtain ⟨hk, hh, hh2, hn, hn2, hp, hnn, hd⟩ := h
  have g1 : callOf (f1 c) = ⟨c.k, 0, 0, 0, 0, ⟨#[]⟩, ⟨#[]⟩, 0, 0, ⟨#[]⟩⟩ := by
    have : Pl.numVal (Pl.numOut c.k 1) = c.k := val_num (z := 1) (by omega) (by omega) (by omega) (by omega)
    simp [callOf, f1, withF, zero, this]
  have g2 : callOf (f2 c) = ⟨c.k, c.no, c.gen, 0, 0, ⟨#[]⟩, ⟨#[]⟩, 0, 0, ⟨#[]⟩⟩ := by
    unfold f2
    rw [callOf_opt, g1]
    cases hz : hnz c.no c.gen with
    | true => rw [if_pos rfl]; obtain ⟨e1, e2⟩ := hback hh; simp [withF, e1, e2]
    | false => rw [if_neg (by decide)]; obtain ⟨e1, e2⟩ := hz_of hz; rw [e1, e2]
  have g3 : callOf (f3 c) = ⟨c.k, c.no, c.gen, c.no2, c.gen2, ⟨#[]⟩, ⟨#[]⟩, 0, 0, ⟨#[]⟩⟩ := by
    unfold f3
    rw [callOf_opt, g2]
    cases hz : hnz c.no2 c.gen2 with
    | true => rw [if_pos rfl]; obtain ⟨e1, e2⟩ := hback hh2; simp [withF, e1, e2]
    | false => rw [if_neg (by decide)]; obtain ⟨e1, e2⟩ := hz_of hz; rw [e1, e2]
  have g4 : callOf (f4 c) = ⟨c.k, c.no, c.gen, c.no2, c.gen2, c.nm, ⟨#[]⟩, 0, 0, ⟨#[]⟩⟩ := by
    unfold f4
    rw [callOf_opt, g3]
    cases hz : snz c.nm with
    | true => rw [if_pos rfl]; simp [withF]
    | false => rw [if_neg (by decide), empty_of hz]
  have g5 : callOf (f5 c) = ⟨c.k, c.no, c.gen, c.no2, c.gen2, c.nm, c.nm2, 0, 0, ⟨#[]⟩⟩ := by
    unfold f5
    rw [callOf_opt, g4]
    cases hz : snz c.nm2 with
    | true => rw [if_pos rfl]; simp [withF]
    | false => rw [if_neg (by decide), empty_of hz]
  have g6 : callOf (f6 c) = ⟨c.k, c.no, c.gen, c.no2, c.gen2, c.nm, c.nm2, c.pl, 0, ⟨#[]⟩⟩ := by
    unfold f6
    rw [callOf_opt, g5]
    cases hz : (c.pl != 0) with
    | true =>
      have : Pl.numVal (Pl.numOut c.pl 4) = c.pl := val_num (z := 4) (by omega) (by omega) (by omega) (by omega)
      rw [if_pos rfl]; simp [withF, this]
    | false => have : c.pl = 0 := by simpa using hz
               rw [if_neg (by decide), this]
  have g7 : callOf (f7 c) = ⟨c.k, c.no, c.gen, c.no2, c.gen2, c.nm, c.nm2, c.pl, c.n, ⟨#[]⟩⟩ := by
    unfold f7
    rw [callOf_opt, g6]
    cases hz : (c.n != 0) with
    | true =>
      have : Pl.numVal (Pl.numOut c.n 2) = c.n := val_num (z := 2) (by omega) (by omega) (by omega) (by omega)
      rw [if_pos rfl]; simp [withF, this]
    | false => have : c.n = 0 := by simpa using hz
               rw [if_neg (by decide), this]
  unfold fields
  rw [callOf_opt, g7]
  cases hz : snz c.data with
  | true => rw [if_pos rfl]; simp [withF]
  | false => have := empty_of hz; rw [if_neg (by decide)]; cases c; simp only at this; rw [this]

/-- What was packed is unpacked. -/
theorem back {c : Cl} (h : right c = true) : unpC (Pl.encs (fields c)) = c ∧ unpE (Pl.encs (fields c)) = 0 ∧ (Pl.encs (fields c)).length ≤ 1700 := by
  have hr := right_iff.1 h
  have hu := up_fields hr
  obtain ⟨e1, e2⟩ := Pl.unp_encs (fields c) hu.1
  have hc : isCall (Pl.encs (fields c)) = true := by
    unfold isCall
    rw [e1, e2, callOf_fields hr, h]
    simp
  refine ⟨?_, ?_, hu.2.2⟩
  · unfold unpC; rw [if_pos hc, e1, callOf_fields hr]
  · unfold unpE; rw [if_pos hc]
/-- What is unpacked is packed so. -/
theorem forth {L : List UInt8} (h : unpE L = 0) : right (unpC L) = true ∧ Pl.encs (fields (unpC L)) = L := by
  unfold unpE at h
  split at h
  · rename_i hc
    unfold unpC
    rw [if_pos hc]
    unfold isCall at hc
    simp only [Bool.and_eq_true, decide_eq_true_eq] at hc
    exact ⟨hc.1.2, hc.2⟩
  · cases h
theorem unp_bad {L : List UInt8} (h : unpE L ≠ 0) : unpC L = zero ∧ unpE L = 413 := by
  unfold unpE at h
  unfold unpC unpE
  split at h
  · exact absurd rfl h
  · rename_i hc
    simp [hc]
end Ak
end Go.Proofs.Ytapjgkhbanpmjaa
