/-
  Plain facts: a right reply's fields can be packed and are few; there and back.
-/
import Derived.Test.YtapjgkhbanpmjaaRPlain
namespace Go.Proofs.Ytapjgkhbanpmjaa
open Ak
namespace Re
theorem Up.up {l : List (Int × ByteArray)} {t u : Int} {n m : Nat} (h : Up l t n) (ht : t ≤ u) (hm : n ≤ m) : Up l u m := ⟨h.1, fun x hx => Int.le_trans (h.2.1 x hx) ht, Nat.le_trans h.2.2 hm⟩
theorem Up.snoc {l : List (Int × ByteArray)} {t : Int} {n m : Nat} {s : ByteArray} (h : Up l t n) (h1 : 1 ≤ t) (ht : t ≤ 255) (hs : s.size ≤ m) (hm : m ≤ 65535) : Up (l ++ [(t, s)]) t (n + 3 + m) := by
  obtain ⟨h0, h2, h3⟩ := h
  refine ⟨packErr_snoc l 1 (t, s) h0 h2 h1 h1 ht (by simp only; omega), ?_, ?_⟩
  · intro x hx
    rcases List.mem_append.1 hx with hx | hx
    · exact h2 x hx
    · simp at hx; subst hx; exact Int.le_refl _
  · have e : Pl.encs (l ++ [(t, s)]) = Pl.encs l ++ Pl.encOne (t, s) := by simp [Pl.encs]
    have := Pl.encOne_length (t, s)
    rw [e, List.length_append]
    simp only at this
    omega
theorem up_ents {l : List (Int × ByteArray)} {n : Nat} (h : Up l 5 n) (es : List Ent) (hs : ∀ x ∈ es, (ebytes x).size ≤ 45) : Up (l ++ ef es) 5 (n + es.length * 48) := by
  induction es using rev_ind with
  | h0 => simpa [ef] using h
  | h1 es x ih =>
    have e : ef (es ++ [x]) = ef es ++ [(5, ebytes x)] := by simp [ef]
    have h1 := Up.snoc (ih fun y hy => hs y (by simp [hy])) (by omega) (by omega) (hs x (by simp)) (by omega)
    rw [e, ← List.append_assoc]
    exact Up.up h1 (Int.le_refl _) (by simp only [List.length_append, List.length_cons, List.length_nil]; omega)
theorem apack_le (k l s t : Int) : (At.packOut k l s t).size ≤ 32 := by
  unfold At.packOut
  split
  · have h1 := numOut_le k 1
    have h2 := numOut_le l 1
    have h3 := numOut_le s 4
    have h4 := numOut_le t 6
    rw [ByteArray.size_append, ByteArray.size_append, ByteArray.size_append]
    omega
  · exact Nat.zero_le _
theorem up_nil : Up [] 0 0 := ⟨rfl, (fun x hx => by cases hx), Nat.le_refl _⟩
theorem up_f1 (r : Rep) : Up (f1 r) 1 11 := by
  have h := numOut_le r.e 2
  unfold f1 opt
  split
  · refine ⟨?_, ?_, ?_⟩
    · have : Pl.badAt 1 (1, Pl.numOut r.e 2) = 0 := by unfold Pl.badAt; simp only; rw [if_neg (by omega), if_neg (by omega), if_neg (by omega)]
      simp [Pl.packErr, this]
    · intro x hx; simp at hx; subst hx; simp
    · have := Pl.encOne_length (1, Pl.numOut r.e 2)
      simp only at this
      simp only [Pl.encs, List.flatMap_cons, List.flatMap_nil, List.append_nil]
      omega
  · exact ⟨rfl, (fun x hx => by cases hx), Nat.zero_le _⟩
theorem up_f4 {r : Rep} (hd : r.data.size ≤ 512) : Up (f4 r) 4 700 := by
  have a2 := (up_f1 r).opt (b := hnz r.no r.gen) (u := 2) (s := hbytes r.no r.gen) (by omega) (by omega) (by omega) (hbytes_le _ _) (by omega)
  have a3 := a2.opt (b := anz r.k r.l r.s r.t) (u := 3) (s := At.packOut r.k r.l r.s r.t) (by omega) (by omega) (by omega) (apack_le _ _ _ _) (by omega)
  have a4 := a3.opt (b := snz r.data) (u := 4) (s := r.data) (by omega) (by omega) (by omega) hd (by omega)
  exact Up.up a4 (Int.le_refl _) (by omega)
theorem ok_size {s : ByteArray} (h : Nm.ok s) : s.size ≤ 32 := h.2.1
theorem up_fields {r : Rep} (h : rightP r) : Up (fields r) 6 4000 := by
  obtain ⟨he, hh, ha, hd, ⟨hl, hx⟩, hn⟩ := h
  have hm := entsP_mem hx (Int.le_refl 0)
  have a5 := up_ents (Up.up (up_f4 hd) (u := 5) (by omega) (Nat.le_refl _)) r.ents (fun x hx => by
    rw [ebytes_size (hm x hx).1 (hm x hx).2.2]
    have := ok_size (hm x hx).2.1
    omega)
  have a6 := a5.opt (b := r.n != 0) (u := 6) (s := Pl.numOut r.n 6) (by omega) (by omega) (by omega) (numOut_le _ _) (by omega)
  exact Up.up a6 (Int.le_refl _) (by omega)
/-- What Unpack answers. -/
noncomputable def isRep (L : List UInt8) : Bool := decide (Pl.unpErr L = 0) && right (replyOf (Pl.unpOut L)) && decide (Pl.encs (fields (replyOf (Pl.unpOut L))) = L)
noncomputable def unpR (L : List UInt8) : Rep := if isRep L then replyOf (Pl.unpOut L) else zero
noncomputable def unpE (L : List UInt8) : Int := if isRep L then 0 else 4
theorem back {r : Rep} (h : right r = true) : unpR (Pl.encs (fields r)) = r ∧ unpE (Pl.encs (fields r)) = 0 ∧ (Pl.encs (fields r)).length ≤ 4000 := by
  have hr := right_iff.1 h
  have hu := up_fields hr
  obtain ⟨e1, e2⟩ := Pl.unp_encs (fields r) hu.1
  have hc : isRep (Pl.encs (fields r)) = true := by
    unfold isRep
    rw [e1, e2, replyOf_fields hr, h]
    simp
  refine ⟨?_, ?_, hu.2.2⟩
  · unfold unpR; rw [if_pos hc, e1, replyOf_fields hr]
  · unfold unpE; rw [if_pos hc]
theorem forth {L : List UInt8} (h : unpE L = 0) : right (unpR L) = true ∧ Pl.encs (fields (unpR L)) = L := by
  unfold unpE at h
  split at h
  · rename_i hc
    unfold unpR
    rw [if_pos hc]
    unfold isRep at hc
    simp only [Bool.and_eq_true, decide_eq_true_eq] at hc
    exact ⟨hc.1.2, hc.2⟩
  · cases h
theorem unp_bad {L : List UInt8} (h : unpE L ≠ 0) : unpR L = zero ∧ unpE L = 4 := by
  unfold unpE at h
  unfold unpR unpE
  split at h
  · exact absurd rfl h
  · rename_i hc
    simp [hc]
theorem isRep_yes {s : ByteArray} (h0 : Pl.unpErr s.data.toList = 0) (h1 : packErr (replyOf (Pl.unpOut s.data.toList)) = 0) (h2 : packOut (replyOf (Pl.unpOut s.data.toList)) = s) : unpR s.data.toList = replyOf (Pl.unpOut s.data.toList) ∧ unpE s.data.toList = 0 := by
  have hr : right (replyOf (Pl.unpOut s.data.toList)) = true := by
    unfold packErr at h1
    split at h1
    · assumption
    · cases h1
  have he : Pl.encs (fields (replyOf (Pl.unpOut s.data.toList))) = s.data.toList := by
    unfold packOut at h2
    rw [if_pos hr] at h2
    rw [← Pl.txt_data (Pl.encs (fields (replyOf (Pl.unpOut s.data.toList)))), h2]
  have hc : isRep s.data.toList = true := by
    unfold isRep
    rw [h0, hr, he]
    simp
  unfold unpR unpE
  rw [if_pos hc, if_pos hc]
  exact ⟨rfl, rfl⟩
theorem isRep_no {s : ByteArray} (h : Pl.unpErr s.data.toList ≠ 0 ∨ packErr (replyOf (Pl.unpOut s.data.toList)) ≠ 0 ∨ packOut (replyOf (Pl.unpOut s.data.toList)) ≠ s) : unpR s.data.toList = zero ∧ unpE s.data.toList = 4 := by
  have hc : isRep s.data.toList = false := by
    rw [Bool.eq_false_iff]
    intro hc
    unfold isRep at hc
    simp only [Bool.and_eq_true, decide_eq_true_eq] at hc
    obtain ⟨⟨a, b⟩, c⟩ := hc
    rcases h with h | h | h
    · exact h a
    · exact h (by unfold packErr; rw [if_pos b])
    · refine h ?_
      unfold packOut
      rw [if_pos b, c, Pl.txt_toList]
  unfold unpR unpE
  rw [hc]
  exact ⟨rfl, rfl⟩
/-- The zero reply alone has no bytes. -/
theorem empty_iff {r : Rep} (h : rightP r) : Pl.encs (fields r) = [] ↔ r = zero := by
  constructor
  · intro he
    have h1 := replyOf_fields h
    have hu := (Pl.unp_encs (fields r) (up_fields h).1).1
    rw [he] at hu
    have hn : Pl.unpOut [] = [] := rfl
    rw [hn] at hu
    rw [← h1, ← hu]
    rfl
  · intro he
    subst he
    have hs : snz ⟨#[]⟩ = false := by unfold snz; rw [ByteArray.toList_eq]; rfl
    have : fields zero = [] := by
      unfold fields f5 f4 f3 f2 f1 ef opt zero
      simp [hnz, anz, hs]
    rw [this]
    rfl
end Re
end Go.Proofs.Ytapjgkhbanpmjaa
