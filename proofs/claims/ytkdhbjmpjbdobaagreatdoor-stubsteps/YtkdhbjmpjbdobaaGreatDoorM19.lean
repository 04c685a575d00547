/-
  The texts RPlain, RBackP, NName, as one.
-/
import Derived.WalkKit
import Derived.WalkSpells
import Derived.WalkLawsBesides
import Derived.ProofKit
import Derived.BigQuiet
import Derived.Deep.QuietTactic
import Derived.Deep.RegionHeld3
import Derived.Deep.SlicePairs
import Derived.Test.YtkdhbjmpjbdobaaGreatDoorM18
/- RPlain -/
namespace Go.Proofs.YtkdhbjmpjbdobaaGreatDoor.Ns
open Ak
set_option maxRecDepth 100000
structure Rep where
  e : Int
  no : Int
  gen : Int
  k : Int
  l : Int
  s : Int
  t : Int
  data : ByteArray
  ents : List Ent
  n : Int
namespace Re
def zero : Rep := ⟨0, 0, 0, 0, 0, 0, 0, ⟨#[]⟩, [], 0⟩
def entP (last : Int) (x : Ent) : Prop := (last + 1 ≤ x.2.1 ∧ x.2.1 ≤ 1099511627776) ∧ Nm.ok x.1 ∧ hokP x.2.2.1 x.2.2.2
def entsP : Int → List Ent → Prop
  | _, [] => True
  | last, x :: l => entP last x ∧ entsP x.2.1 l
def rightP (r : Rep) : Prop := (0 ≤ r.e ∧ r.e ≤ 65535) ∧ hokP r.no r.gen ∧ At.right r.k r.l r.s r.t = true ∧ r.data.size ≤ 512 ∧ (r.ents.length ≤ 64 ∧ entsP 0 r.ents) ∧ (0 ≤ r.n ∧ r.n ≤ 1099511627776)
/-- The same, decided. -/
def entB (last : Int) (x : Ent) : Bool := decide (last + 1 ≤ x.2.1 ∧ x.2.1 ≤ 1099511627776) && (Nm.okB x.1 && hok x.2.2.1 x.2.2.2)
def allB : Int → List Ent → Bool
  | _, [] => true
  | last, x :: l => entB last x && allB x.2.1 l
theorem allB_iff : ∀ {last : Int} {l : List Ent}, allB last l = true ↔ entsP last l
  | _, [] => by simp [allB, entsP]
  | last, x :: l => by
    unfold allB entsP entB entP hok
    rw [Bool.and_eq_true, allB_iff, Bool.and_eq_true, Bool.and_eq_true, Nm.okB_iff, decide_eq_true_eq, decide_eq_true_eq]
def entsB (l : List Ent) : Bool := decide (l.length ≤ 64) && allB 0 l
theorem entsB_iff {l : List Ent} : entsB l = true ↔ (l.length ≤ 64 ∧ entsP 0 l) := by unfold entsB; rw [Bool.and_eq_true, decide_eq_true_eq, allB_iff]
theorem entsB_no {l : List Ent} : entsB l = false ↔ ¬ (l.length ≤ 64 ∧ entsP 0 l) := by rw [← entsB_iff]; simp
def right (r : Rep) : Bool := decide (0 ≤ r.e ∧ r.e ≤ 65535) && (hok r.no r.gen && (At.right r.k r.l r.s r.t && (decide (r.data.size ≤ 512) && (entsB r.ents && decide (0 ≤ r.n ∧ r.n ≤ 1099511627776)))))
theorem right_iff {r : Rep} : right r = true ↔ rightP r := by
  unfold right rightP hok
  rw [Bool.and_eq_true, Bool.and_eq_true, Bool.and_eq_true, Bool.and_eq_true, Bool.and_eq_true, entsB_iff, decide_eq_true_eq, decide_eq_true_eq, decide_eq_true_eq, decide_eq_true_eq]
theorem wrong_iff {r : Rep} : right r = false ↔ ¬ rightP r := by rw [← right_iff]; simp

def anz (k l s t : Int) : Bool := !(k == 0 && (l == 0 && (s == 0 && t == 0)))
def ebytes (x : Ent) : ByteArray := Pl.numOut x.2.1 6 ++ hbytes x.2.2.1 x.2.2.2 ++ x.1
def f1 (r : Rep) : List (Int × ByteArray) := opt (r.e != 0) (1, Pl.numOut r.e 2)
def f2 (r : Rep) := f1 r ++ opt (hnz r.no r.gen) (2, hbytes r.no r.gen)
def f3 (r : Rep) := f2 r ++ opt (anz r.k r.l r.s r.t) (3, At.packOut r.k r.l r.s r.t)
def f4 (r : Rep) := f3 r ++ opt (snz r.data) (4, r.data)
def ef (l : List Ent) : List (Int × ByteArray) := l.map fun x => (5, ebytes x)
def f5 (r : Rep) := f4 r ++ ef r.ents
def fields (r : Rep) := f5 r ++ opt (r.n != 0) (6, Pl.numOut r.n 6)
def packOut (r : Rep) : ByteArray := if right r then Pl.txt (Pl.encs (fields r)) else ⟨#[]⟩
def packErr (r : Rep) : Int := if right r then 0 else 4

theorem entsP_mem : ∀ {l : List Ent} {last : Int}, entsP last l → 0 ≤ last → ∀ x ∈ l, (1 ≤ x.2.1 ∧ x.2.1 ≤ 1099511627776) ∧ Nm.ok x.1 ∧ hokP x.2.2.1 x.2.2.2
  | [], _, _, _, x, hx => by cases hx
  | y :: l, last, h, h0, x, hx => by
    obtain ⟨⟨⟨h1, h2⟩, h3, h4⟩, h5⟩ := h
    rcases List.mem_cons.1 hx with rfl | hx
    · exact ⟨⟨by omega, h2⟩, h3, h4⟩
    · exact entsP_mem h5 (by omega) x hx
theorem cookie_of {c : Int} (h : 1 ≤ c ∧ c ≤ 1099511627776) : 0 ≤ c ∧ c.toNat < 256 ^ 6 := ⟨by omega, by omega⟩
theorem ebytes_size {x : Ent} (hc : 1 ≤ x.2.1 ∧ x.2.1 ≤ 1099511627776) (hh : hokP x.2.2.1 x.2.2.2) : (ebytes x).size = 13 + x.1.size := by
  have h1 : (Pl.numOut x.2.1 6).size = 6 := num_size (z := 6) (cookie_of hc).1 (by omega) (by omega) (cookie_of hc).2
  have h2 := hbytes_size hh
  unfold ebytes
  rw [ByteArray.size_append, ByteArray.size_append, h1, h2]
/-- The entry that bytes are. -/
def entOf (s : ByteArray) : Ent := if s.size < 13 then (⟨#[]⟩, 0, 0, 0) else (s.extract 13 s.size, Pl.numVal (s.extract 0 6), hno (s.extract 6 13), hgen (s.extract 6 13))
theorem ent_back {x : Ent} (hc : 1 ≤ x.2.1 ∧ x.2.1 ≤ 1099511627776) (hh : hokP x.2.2.1 x.2.2.2) : entOf (ebytes x) = x := by
  have hs := ebytes_size hc hh
  have h1 : (Pl.numOut x.2.1 6).size = 6 := num_size (z := 6) (cookie_of hc).1 (by omega) (by omega) (cookie_of hc).2
  have h2 := hbytes_size hh
  unfold entOf
  rw [if_neg (by omega), hs]
  unfold ebytes
  have e0 : (Pl.numOut x.2.1 6 ++ hbytes x.2.2.1 x.2.2.2 ++ x.1).extract 0 6 = Pl.numOut x.2.1 6 := by
    rw [Pl.ba_assoc]; exact extract_left _ _ 6 h1
  have e1 : (Pl.numOut x.2.1 6 ++ hbytes x.2.2.1 x.2.2.2 ++ x.1).extract 6 13 = hbytes x.2.2.1 x.2.2.2 := Pl.cut_mid _ _ _ 6 13 h1 (by omega)
  have e2 : (Pl.numOut x.2.1 6 ++ hbytes x.2.2.1 x.2.2.2 ++ x.1).extract 13 (13 + x.1.size) = x.1 := extract_right _ _ 13 _ (by rw [ByteArray.size_append]; omega) (by rw [ByteArray.size_append]; omega)
  rw [e0, e1, e2, (hback hh).1, (hback hh).2]
  have e3 : Pl.numVal (Pl.numOut x.2.1 6) = x.2.1 := val_num (z := 6) (cookie_of hc).1 (by omega) (by omega) (cookie_of hc).2
  rw [e3]

/-- The attributes that bytes are. -/
def ua (S : ByteArray) : Int × Int × Int × Int := if At.unpErr S = 0 then (At.k S, At.l S, At.s S, At.t S) else (0, 0, 0, 0)
theorem ua_out (S : ByteArray) : At.unpOut S = VA (ua S).1 (ua S).2.1 (ua S).2.2.1 (ua S).2.2.2 := by
  unfold At.unpOut ua
  split <;> rfl
theorem ua_back {k l s t : Int} (h : At.right k l s t = true) : ua (At.packOut k l s t) = (k, l, s, t) := by
  obtain ⟨_, h1, h2⟩ := At.back h
  rw [ua_out] at h2
  simp only [Value.agg.injEq, Array.mk.injEq, List.cons.injEq, Value.int.injEq, true_and, and_true] at h2
  obtain ⟨a, b, c, d⟩ := h2
  exact Prod.ext a (Prod.ext b (Prod.ext c d))

/-- The reply that fields say. -/
def replyOf (l : List (Int × ByteArray)) : Rep :=
  ⟨Pl.numVal (lastOf l 1), hno (lastOf l 2), hgen (lastOf l 2), (ua (lastOf l 3)).1, (ua (lastOf l 3)).2.1, (ua (lastOf l 3)).2.2.1, (ua (lastOf l 3)).2.2.2, lastOf l 4, (Pl.allOf l 5).map entOf, Pl.numVal (lastOf l 6)⟩
theorem lastOf_opt (l : List (Int × ByteArray)) (b : Bool) (t : Int) (s : ByteArray) (u : Int) : lastOf (l ++ opt b (t, s)) u = if b = true ∧ t = u then s else lastOf l u := by
  unfold opt
  cases b with
  | true =>
    rw [if_pos rfl, lastOf_snoc]
    by_cases h : t = u <;> simp [h]
  | false => simp
theorem lastOf_ents (es : List Ent) (l : List (Int × ByteArray)) (u : Int) (h : u ≠ 5) : lastOf (l ++ ef es) u = lastOf l u := by
  induction es using rev_ind with
  | h0 => simp [ef]
  | h1 es x ih =>
    have : ef (es ++ [x]) = ef es ++ [(5, ebytes x)] := by simp [ef]
    rw [this, ← List.append_assoc, lastOf_snoc, if_neg (by simp only; omega), ih]
theorem allOf_append (a b : List (Int × ByteArray)) (t : Int) : Pl.allOf (a ++ b) t = Pl.allOf a t ++ Pl.allOf b t := by simp [Pl.allOf]
theorem allOf_opt (b : Bool) (t : Int) (s : ByteArray) (u : Int) (h : t ≠ u) : Pl.allOf (opt b (t, s)) u = [] := by
  unfold opt
  cases b <;> simp [Pl.allOf, h]
theorem allOf_ef (es : List Ent) : Pl.allOf (ef es) 5 = es.map ebytes := by
  unfold ef Pl.allOf
  rw [List.filter_eq_self.2 (by intro x hx; obtain ⟨y, _, rfl⟩ := List.mem_map.1 hx; simp), List.map_map]
  rfl
theorem replyOf_fields {r : Rep} (h : rightP r) : replyOf (fields r) = r := by
  obtain ⟨he, hh, ha, hd, ⟨hl, hx⟩, hn⟩ := h
  have hm := entsP_mem hx (Int.le_refl 0)
  have z0 : ∀ u, lastOf ([] : List (Int × ByteArray)) u = ⟨#[]⟩ := fun _ => rfl
  have c1 : lastOf (f1 r) 1 = if (r.e != 0) = true then Pl.numOut r.e 2 else ⟨#[]⟩ := by
    have := lastOf_opt [] (r.e != 0) 1 (Pl.numOut r.e 2) 1
    rw [List.nil_append] at this
    unfold f1
    rw [this]
    simp [z0]
  have d1 : ∀ u, u ≠ 1 → lastOf (f1 r) u = ⟨#[]⟩ := fun u hu => by
    have := lastOf_opt [] (r.e != 0) 1 (Pl.numOut r.e 2) u
    rw [List.nil_append] at this
    unfold f1
    rw [this, if_neg (by intro hh; exact hu hh.2.symm), z0]
  have v1 : lastOf (fields r) 1 = lastOf (f1 r) 1 := by
    unfold fields f5 f4 f3 f2
    rw [lastOf_opt, if_neg (by simp), lastOf_ents _ _ _ (by decide), lastOf_opt, if_neg (by simp), lastOf_opt, if_neg (by simp), lastOf_opt, if_neg (by simp)]
  have v2 : lastOf (fields r) 2 = if hnz r.no r.gen = true then hbytes r.no r.gen else ⟨#[]⟩ := by
    unfold fields f5 f4 f3 f2
    rw [lastOf_opt, if_neg (by simp), lastOf_ents _ _ _ (by decide), lastOf_opt, if_neg (by simp), lastOf_opt, if_neg (by simp), lastOf_opt, d1 2 (by decide)]
    simp
  have v3 : lastOf (fields r) 3 = if anz r.k r.l r.s r.t = true then At.packOut r.k r.l r.s r.t else ⟨#[]⟩ := by
    unfold fields f5 f4 f3 f2
    rw [lastOf_opt, if_neg (by simp), lastOf_ents _ _ _ (by decide), lastOf_opt, if_neg (by simp), lastOf_opt, lastOf_opt, d1 3 (by decide)]
    simp
  have v4 : lastOf (fields r) 4 = if snz r.data = true then r.data else ⟨#[]⟩ := by
    unfold fields f5 f4 f3 f2
    rw [lastOf_opt, if_neg (by simp), lastOf_ents _ _ _ (by decide), lastOf_opt, lastOf_opt, lastOf_opt, d1 4 (by decide)]
    simp
  have v6 : lastOf (fields r) 6 = if (r.n != 0) = true then Pl.numOut r.n 6 else ⟨#[]⟩ := by
    unfold fields f5 f4 f3 f2
    rw [lastOf_opt, lastOf_ents _ _ _ (by decide), lastOf_opt, lastOf_opt, lastOf_opt, d1 6 (by decide)]
    simp
  have v5 : Pl.allOf (fields r) 5 = r.ents.map ebytes := by
    unfold fields f5 f4 f3 f2 f1
    simp only [allOf_append]
    rw [allOf_opt _ _ _ _ (by decide), allOf_opt _ _ _ _ (by decide), allOf_opt _ _ _ _ (by decide), allOf_opt _ _ _ _ (by decide), allOf_opt _ _ _ _ (by decide), allOf_ef]
    simp
  have w5 : (r.ents.map ebytes).map entOf = r.ents := by
    rw [List.map_map]
    have : ∀ x ∈ r.ents, (entOf ∘ ebytes) x = x := fun x hx => ent_back (hm x hx).1 (hm x hx).2.2
    exact (List.map_congr_left this).trans (List.map_id _)
  have nz : Pl.numVal ⟨#[]⟩ = 0 := by decide
  have hz : hno ⟨#[]⟩ = 0 ∧ hgen ⟨#[]⟩ = 0 := by decide
  have uz : ua ⟨#[]⟩ = (0, 0, 0, 0) := by
    unfold ua
    rw [if_neg]
    unfold At.unpErr
    rw [if_neg (by decide)]
    decide
  have a1 : Pl.numVal (lastOf (fields r) 1) = r.e := by
    rw [v1, c1]
    by_cases h0 : r.e = 0
    · simp [h0, nz]
    · rw [if_pos (by simpa using h0)]; exact val_num (z := 2) (by omega) (by omega) (by omega) (by omega)
  have a2 : hno (lastOf (fields r) 2) = r.no ∧ hgen (lastOf (fields r) 2) = r.gen := by
    rw [v2]
    cases hq : hnz r.no r.gen with
    | true => rw [if_pos rfl]; exact hback hh
    | false => obtain ⟨e1, e2⟩ := hz_of hq; rw [if_neg (by decide), e1, e2]; exact hz
  have a3 : ua (lastOf (fields r) 3) = (r.k, r.l, r.s, r.t) := by
    rw [v3]
    cases hq : anz r.k r.l r.s r.t with
    | true => rw [if_pos rfl]; exact ua_back ha
    | false =>
      unfold anz at hq
      simp at hq
      obtain ⟨e1, e2, e3, e4⟩ := hq
      rw [if_neg (by decide), e1, e2, e3, e4]
      exact uz
  have a4 : lastOf (fields r) 4 = r.data := by
    rw [v4]
    cases hq : snz r.data with
    | true => rw [if_pos rfl]
    | false => rw [if_neg (by decide), empty_of hq]
  have a6 : Pl.numVal (lastOf (fields r) 6) = r.n := by
    rw [v6]
    by_cases h0 : r.n = 0
    · simp [h0, nz]
    · rw [if_pos (by simpa using h0)]; exact val_num (z := 6) (by omega) (by omega) (by omega) (by omega)
  unfold replyOf
  rw [a1, a2.1, a2.2, a3, a4, v5, w5, a6]
end Re
end Go.Proofs.YtkdhbjmpjbdobaaGreatDoor.Ns
/- RBackP -/
namespace Go.Proofs.YtkdhbjmpjbdobaaGreatDoor.Ns
open Ak
set_option maxRecDepth 100000
namespace Re
theorem Up.up {l : List (Int × ByteArray)} {t u : Int} {n m : Nat} (h : Up l t n) (ht : t ≤ u) (hm : n ≤ m) : Up l u m := ⟨h.1, fun x hx => Int.le_trans (h.2.1 x hx) ht, Nat.le_trans h.2.2 hm⟩
theorem Up.snoc {l : List (Int × ByteArray)} {t : Int} {n m : Nat} {s : ByteArray} (h : Up l t n) (h1 : 1 ≤ t) (ht : t ≤ 255) (hs : s.size ≤ m) (hm : m ≤ 65535) : Up (l ++ [(t, s)]) t (n + 3 + m) := by
  obtain ⟨h0, h2, h3⟩ := h
  refine ⟨packErr_snoc l 1 (t, s) h0 h2 h1 h1 ht (by simp only; omega), ?_, ?_⟩
  · intro x hx
    rcases List.mem_append.1 hx with hx | hx
    · exact h2 x hx
    · simp at hx; subst hx; exact Int.le_refl _
  · have e : Pl.encs (l ++ [(t, s)]) = Pl.encs l ++ Pl.encOne (t, s) := by simp [Pl.encs]
    have := Pl.encOne_length (t, s)
    rw [e, List.length_append]
    simp only at this
    omega
theorem up_ents {l : List (Int × ByteArray)} {n : Nat} (h : Up l 5 n) (es : List Ent) (hs : ∀ x ∈ es, (ebytes x).size ≤ 45) : Up (l ++ ef es) 5 (n + es.length * 48) := by
  induction es using rev_ind with
  | h0 => simpa [ef] using h
  | h1 es x ih =>
    have e : ef (es ++ [x]) = ef es ++ [(5, ebytes x)] := by simp [ef]
    have h1 := Up.snoc (ih fun y hy => hs y (by simp [hy])) (by omega) (by omega) (hs x (by simp)) (by omega)
    rw [e, ← List.append_assoc]
    exact Up.up h1 (Int.le_refl _) (by simp only [List.length_append, List.length_cons, List.length_nil]; omega)
theorem apack_le (k l s t : Int) : (At.packOut k l s t).size ≤ 32 := by
  unfold At.packOut
  split
  · have h1 := numOut_le k 1
    have h2 := numOut_le l 1
    have h3 := numOut_le s 4
    have h4 := numOut_le t 6
    rw [ByteArray.size_append, ByteArray.size_append, ByteArray.size_append]
    omega
  · exact Nat.zero_le _
theorem up_nil : Up [] 0 0 := ⟨rfl, (fun x hx => by cases hx), Nat.le_refl _⟩
theorem up_f1 (r : Rep) : Up (f1 r) 1 11 := by
  have h := numOut_le r.e 2
  unfold f1 opt
  split
  · refine ⟨?_, ?_, ?_⟩
    · have : Pl.badAt 1 (1, Pl.numOut r.e 2) = 0 := by unfold Pl.badAt; simp only; rw [if_neg (by omega), if_neg (by omega), if_neg (by omega)]
      simp [Pl.packErr, this]
    · intro x hx; simp at hx; subst hx; simp
    · have := Pl.encOne_length (1, Pl.numOut r.e 2)
      simp only at this
      simp only [Pl.encs, List.flatMap_cons, List.flatMap_nil, List.append_nil]
      omega
  · exact ⟨rfl, (fun x hx => by cases hx), Nat.zero_le _⟩
theorem up_f4 {r : Rep} (hd : r.data.size ≤ 512) : Up (f4 r) 4 700 := by
  have a2 := (up_f1 r).opt (b := hnz r.no r.gen) (u := 2) (s := hbytes r.no r.gen) (by omega) (by omega) (by omega) (hbytes_le _ _) (by omega)
  have a3 := a2.opt (b := anz r.k r.l r.s r.t) (u := 3) (s := At.packOut r.k r.l r.s r.t) (by omega) (by omega) (by omega) (apack_le _ _ _ _) (by omega)
  have a4 := a3.opt (b := snz r.data) (u := 4) (s := r.data) (by omega) (by omega) (by omega) hd (by omega)
  exact Up.up a4 (Int.le_refl _) (by omega)
theorem ok_size {s : ByteArray} (h : Nm.ok s) : s.size ≤ 32 := h.2.1
theorem up_fields {r : Rep} (h : rightP r) : Up (fields r) 6 4000 := by
  obtain ⟨he, hh, ha, hd, ⟨hl, hx⟩, hn⟩ := h
  have hm := entsP_mem hx (Int.le_refl 0)
  have a5 := up_ents (Up.up (up_f4 hd) (u := 5) (by omega) (Nat.le_refl _)) r.ents (fun x hx => by
    rw [ebytes_size (hm x hx).1 (hm x hx).2.2]
    have := ok_size (hm x hx).2.1
    omega)
  have a6 := a5.opt (b := r.n != 0) (u := 6) (s := Pl.numOut r.n 6) (by omega) (by omega) (by omega) (numOut_le _ _) (by omega)
  exact Up.up a6 (Int.le_refl _) (by omega)
/-- What Unpack answers. -/
def isRep (L : List UInt8) : Bool := decide (Pl.unpErr L = 0) && right (replyOf (Pl.unpOut L)) && decide (Pl.encs (fields (replyOf (Pl.unpOut L))) = L)
def unpR (L : List UInt8) : Rep := if isRep L then replyOf (Pl.unpOut L) else zero
def unpE (L : List UInt8) : Int := if isRep L then 0 else 4
theorem back {r : Rep} (h : right r = true) : unpR (Pl.encs (fields r)) = r ∧ unpE (Pl.encs (fields r)) = 0 ∧ (Pl.encs (fields r)).length ≤ 4000 := by
  have hr := right_iff.1 h
  have hu := up_fields hr
  obtain ⟨e1, e2⟩ := Pl.unp_encs (fields r) hu.1
  have hc : isRep (Pl.encs (fields r)) = true := by
    unfold isRep
    rw [e1, e2, replyOf_fields hr, h]
    simp
  refine ⟨?_, ?_, hu.2.2⟩
  · unfold unpR; rw [if_pos hc, e1, replyOf_fields hr]
  · unfold unpE; rw [if_pos hc]
theorem forth {L : List UInt8} (h : unpE L = 0) : right (unpR L) = true ∧ Pl.encs (fields (unpR L)) = L := by
  unfold unpE at h
  split at h
  · rename_i hc
    unfold unpR
    rw [if_pos hc]
    unfold isRep at hc
    simp only [Bool.and_eq_true, decide_eq_true_eq] at hc
    exact ⟨hc.1.2, hc.2⟩
  · cases h
theorem unp_bad {L : List UInt8} (h : unpE L ≠ 0) : unpR L = zero ∧ unpE L = 4 := by
  unfold unpE at h
  unfold unpR unpE
  split at h
  · exact absurd rfl h
  · rename_i hc
    simp [hc]
theorem isRep_yes {s : ByteArray} (h0 : Pl.unpErr s.data.toList = 0) (h1 : packErr (replyOf (Pl.unpOut s.data.toList)) = 0) (h2 : packOut (replyOf (Pl.unpOut s.data.toList)) = s) : unpR s.data.toList = replyOf (Pl.unpOut s.data.toList) ∧ unpE s.data.toList = 0 := by
  have hr : right (replyOf (Pl.unpOut s.data.toList)) = true := by
    unfold packErr at h1
    split at h1
    · assumption
    · cases h1
  have he : Pl.encs (fields (replyOf (Pl.unpOut s.data.toList))) = s.data.toList := by
    unfold packOut at h2
    rw [if_pos hr] at h2
    rw [← Pl.txt_data (Pl.encs (fields (replyOf (Pl.unpOut s.data.toList)))), h2]
  have hc : isRep s.data.toList = true := by
    unfold isRep
    rw [h0, hr, he]
    simp
  unfold unpR unpE
  rw [if_pos hc, if_pos hc]
  exact ⟨rfl, rfl⟩
theorem isRep_no {s : ByteArray} (h : Pl.unpErr s.data.toList ≠ 0 ∨ packErr (replyOf (Pl.unpOut s.data.toList)) ≠ 0 ∨ packOut (replyOf (Pl.unpOut s.data.toList)) ≠ s) : unpR s.data.toList = zero ∧ unpE s.data.toList = 4 := by
  have hc : isRep s.data.toList = false := by
    rw [Bool.eq_false_iff]
    intro hc
    unfold isRep at hc
    simp only [Bool.and_eq_true, decide_eq_true_eq] at hc
    obtain ⟨⟨a, b⟩, c⟩ := hc
    rcases h with h | h | h
    · exact h a
    · exact h (by unfold packErr; rw [if_pos b])
    · refine h ?_
      unfold packOut
      rw [if_pos b, c, Pl.txt_toList]
  unfold unpR unpE
  rw [hc]
  exact ⟨rfl, rfl⟩
/-- The zero reply alone has no bytes. -/
theorem empty_iff {r : Rep} (h : rightP r) : Pl.encs (fields r) = [] ↔ r = zero := by
  constructor
  · intro he
    have h1 := replyOf_fields h
    have hu := (Pl.unp_encs (fields r) (up_fields h).1).1
    rw [he] at hu
    have hn : Pl.unpOut [] = [] := rfl
    rw [hn] at hu
    rw [← h1, ← hu]
    rfl
  · intro he
    subst he
    have hs : snz ⟨#[]⟩ = false := by unfold snz; rw [ByteArray.toList_eq]; rfl
    have : fields zero = [] := by
      unfold fields f5 f4 f3 f2 f1 ef opt zero
      simp [hnz, anz, hs]
    rw [this]
    rfl
end Re
end Go.Proofs.YtkdhbjmpjbdobaaGreatDoor.Ns
/- NName -/
namespace Go.Proofs.YtkdhbjmpjbdobaaGreatDoor.Ns
open Go.ChangeShapes Go.WideShapes Go.ChangeAt Go.RowKit Go.Deep
set_option maxRecDepth 100000
theorem fwithin_any (lo x hi : Int) (w : World) : Calls Tryz.prog 164 #[.int .i64 lo, .int .i64 x, .int .i64 hi] w fun e w' => e = .returned (.bool (decide (lo ≤ x ∧ x ≤ hi))) ∧ w' = w := by
  by_cases h1 : lo ≤ x
  · by_cases h2 : x ≤ hi
    · rw [decide_eq_true (show lo ≤ x ∧ x ≤ hi from ⟨h1, h2⟩)]
      go_enter Tryz.func164, Tryz.ntmps164
      go_wp2
      go_ret
      exact ⟨rfl, rfl⟩
    · rw [decide_eq_false (show ¬ (lo ≤ x ∧ x ≤ hi) from fun h => h2 h.2)]
      go_enter Tryz.func164, Tryz.ntmps164
      go_wp2
      go_ret
      exact ⟨rfl, rfl⟩
  · rw [decide_eq_false (show ¬ (lo ≤ x ∧ x ≤ hi) from fun h => h1 h.1)]
    go_enter Tryz.func164, Tryz.ntmps164
    go_wp2
    go_ret
    exact ⟨rfl, rfl⟩
theorem fwithin_yes (lo x hi : Int) (w : World) (h : lo ≤ x ∧ x ≤ hi) : Calls Tryz.prog 164 #[.int .i64 lo, .int .i64 x, .int .i64 hi] w fun e w' => e = .returned (.bool true) ∧ w' = w := by
  have := fwithin_any lo x hi w
  rwa [decide_eq_true h] at this
theorem fwithin_no (lo x hi : Int) (w : World) (h : ¬ (lo ≤ x ∧ x ≤ hi)) : Calls Tryz.prog 164 #[.int .i64 lo, .int .i64 x, .int .i64 hi] w fun e w' => e = .returned (.bool false) ∧ w' = w := by
  have := fwithin_any lo x hi w
  rwa [decide_eq_false h] at this

theorem toList_ne {s : ByteArray} {a : Array UInt8} (h : s ≠ ⟨a⟩) : ¬ s.toList = a.toList := fun e => h (by
  rw [ByteArray.toList_eq] at e
  cases s
  simp at e
  rw [e])
theorem below_iter {w : World} (s : ByteArray) (p : Nat) : Below w.heap.size w (w.iter s p) := (Below.refl _ w).alloc (Nat.le_refl _) _
set_option maxRecDepth 100000 in
set_option maxHeartbeats 1000000 in
theorem name_any (s : ByteArray) (w : World) (hm : s.size ≤ maxLen) : Calls Tryz.prog 159 #[.string s] w fun e w' => e = .returned (.int .i64 (Nm.err s)) ∧ Below w.heap.size w w' := by
  unfold maxLen at hm
  by_cases h1 : 1 ≤ (s.size : Int) ∧ (s.size : Int) ≤ 32
  · have H1 : Hid (1 ≤ (s.size : Int) ∧ (s.size : Int) ≤ 32) := h1
    by_cases h2 : s = ⟨#[46]⟩
    · have H : Hid (Nm.err s = 409) := Nm.err_no fun h => h.2.2.1 h2
      rw [H.out]
      subst h2
      go_enter Tryz.func159, Tryz.ntmps159
      go_wp2_with fail
      refine (fwithin_yes _ _ _ _ H1.out).mono ?_
      rintro e w' ⟨rfl, rfl⟩
      go_wp2
      go_ret
      exact ⟨rfl, Below.refl _ _⟩
    · by_cases h3 : s = ⟨#[46, 46]⟩
      · have H : Hid (Nm.err s = 409) := Nm.err_no fun h => h.2.2.2.1 h3
        rw [H.out]
        subst h3
        go_enter Tryz.func159, Tryz.ntmps159
        go_wp2_with fail
        refine (fwithin_yes _ _ _ _ H1.out).mono ?_
        rintro e w' ⟨rfl, rfl⟩
        go_wp2
        go_ret
        exact ⟨rfl, Below.refl _ _⟩
      · have H2 : Hid (s ≠ ⟨#[46]⟩ ∧ s ≠ ⟨#[46, 46]⟩) := ⟨h2, h3⟩
        have e2 : (s.toList == [46]) = false := beq_eq_false_iff_ne.2 (toList_ne h2)
        have e3 : (s.toList == [46, 46]) = false := beq_eq_false_iff_ne.2 (toList_ne h3)
        clear h1 h2 h3
        go_enter Tryz.func159, Tryz.ntmps159
        go_wp2_with fail
        refine (fwithin_yes _ _ _ _ H1.out).mono ?_
        rintro e w' ⟨rfl, hw⟩
        obtain rfl : w = w' := hw.symm
        go_wp2
        go_loopw [4] (fun _ wr => ∃ pos : Nat, pos ≤ s.size ∧ wr = w.iter s pos ∧ Nm.clean s pos) (fun _ wr => s.size - wr.iterPos w.heap.size)
        case atStart => exact ⟨0, Nat.zero_le _, rfl, Nm.clean_zero s⟩
        case round =>
          obtain ⟨pos, hps, rfl, hc⟩ := hrel
          have HC : Hid (Nm.clean s pos) := hc
          clear hc
          by_cases hp : pos < s.size
          · have hnext : ∀ ty, (Instr.next (.pointer (some ⟨w.heap.size, 0, none⟩)) true ty).run Tryz.prog (w.iter s pos) = _ := fun ty => run_next_any w s pos ty hp
            obtain ⟨hd1, hd2, -⟩ := Nm.decode_skip s pos hp
            obtain ⟨q1, q2⟩ := Nm.decode_bad s pos hp
            have HJ : Hid ((Utf8.decode s pos).1 ≠ 47 → (Utf8.decode s pos).1 ≠ 0 → Nm.clean s (pos + (Utf8.decode s pos).2)) := fun a b => Nm.clean_jump hp HC.out a b
            have HB : Hid ((Utf8.decode s pos).1 = 47 ∨ (Utf8.decode s pos).1 = 0 → Nm.err s = 409) := fun a => Nm.err_no (Nm.clean_bad hp (a.imp q1.1 q2.1))
            clear q1 q2
            generalize Utf8.decode s pos = d at *
            obtain ⟨r, k⟩ := d
            simp only at *
            by_cases r1 : r = 47
            · subst r1
              have H : Hid (Nm.err s = 409) := HB.out (.inl rfl)
              go_wp2
              go_ret
              rw [H.out]
              exact ⟨rfl, below_iter s _⟩
            · by_cases r0 : r = 0
              · subst r0
                have H : Hid (Nm.err s = 409) := HB.out (.inr rfl)
                go_wp2
                go_ret
                rw [H.out]
                exact ⟨rfl, below_iter s _⟩
              · have t1 : ((r : Int) == 47) = false := beq_eq_false_iff_ne.2 (by omega)
                have t0 : ((r : Int) == 0) = false := beq_eq_false_iff_ne.2 (by omega)
                have HK : Hid (Nm.clean s (pos + k)) := HJ.out r1 r0
                go_wp2
                go_roundw
                case rel => exact ⟨pos + k, hd2, rfl, HK.out⟩
                case measure =>
                  simp only [World.iterPos_iter]
                  omega
          · have hnext : ∀ ty, (Instr.next (.pointer (some ⟨w.heap.size, 0, none⟩)) true ty).run Tryz.prog (w.iter s pos) = _ := fun ty => run_next_end w s pos ty hp
            have H : Hid (Nm.err s = 0) := Nm.err_ok ⟨by have := H1.out.1; omega, by have := H1.out.2; omega, H2.out.1, H2.out.2, by
              have := HC.out
              rwa [show pos = s.size by omega] at this⟩
            go_wp2
            go_ret
            rw [H.out]
            exact ⟨rfl, below_iter s _⟩
  · have H : Hid (Nm.err s = 409) := Nm.err_no fun h => h1 ⟨by have := h.1; omega, by have := h.2.1; omega⟩
    have H1 : Hid (¬ (1 ≤ (s.size : Int) ∧ (s.size : Int) ≤ 32)) := h1
    rw [H.out]
    clear h1
    go_enter Tryz.func159, Tryz.ntmps159
    go_wp2_with fail
    refine (fwithin_no _ _ _ _ H1.out).mono ?_
    rintro e w' ⟨rfl, rfl⟩
    go_wp2
    go_ret
    exact ⟨rfl, Below.refl _ _⟩
set_option maxRecDepth 100000 in
set_option maxHeartbeats 1000000 in
theorem rname_any (s : ByteArray) (w : World) (hm : s.size ≤ maxLen) : Calls Tryz.prog 137 #[.string s] w fun e w' => e = .returned (.int .i64 (Nm.err s)) ∧ w' = w := by
  unfold maxLen at hm
  by_cases h1 : s.size < 1
  · have H : Hid (Nm.err s = 409) := Nm.err_no fun h => by have := h.1; omega
    rw [H.out]
    have h1' : (s.size : Int) < 1 := by omega
    go_enter Tryz.func137, Tryz.ntmps137
    go_wp2
    go_ret
    exact ⟨rfl, rfl⟩
  by_cases h2 : 32 < s.size
  · have H : Hid (Nm.err s = 409) := Nm.err_no fun h => by have := h.2.1; omega
    rw [H.out]
    have h1' : ¬ (s.size : Int) < 1 := by omega
    have h2' : (32 : Int) < (s.size : Int) := by omega
    go_enter Tryz.func137, Tryz.ntmps137
    go_wp2
    go_ret
    exact ⟨rfl, rfl⟩
  by_cases h3 : s = ⟨#[46]⟩
  · have H : Hid (Nm.err s = 409) := Nm.err_no fun h => h.2.2.1 h3
    rw [H.out]
    subst h3
    go_enter Tryz.func137, Tryz.ntmps137
    go_wp2
    go_ret
    exact ⟨rfl, rfl⟩
  by_cases h4 : s = ⟨#[46, 46]⟩
  · have H : Hid (Nm.err s = 409) := Nm.err_no fun h => h.2.2.2.1 h4
    rw [H.out]
    subst h4
    go_enter Tryz.func137, Tryz.ntmps137
    go_wp2
    go_ret
    exact ⟨rfl, rfl⟩
  have H2 : Hid (1 ≤ s.size ∧ s.size ≤ 32 ∧ s ≠ ⟨#[46]⟩ ∧ s ≠ ⟨#[46, 46]⟩) := ⟨by omega, by omega, h3, h4⟩
  have e2 : (s.toList == [46]) = false := beq_eq_false_iff_ne.2 (toList_ne h3)
  have e3 : (s.toList == [46, 46]) = false := beq_eq_false_iff_ne.2 (toList_ne h4)
  have g1 : ¬ (s.size : Int) < 1 := by omega
  have g2 : ¬ (32 : Int) < (s.size : Int) := by omega
  clear h1 h2 h3 h4
  go_enter Tryz.func137, Tryz.ntmps137
  go_wp2
  go_loopw [3] (fun i wr => ∃ k : Nat, k ≤ s.size ∧ i = .int .i64 k ∧ wr = w ∧ Hid (Nm.clean s k)) (fun i _ => s.size - (intOf i).toNat)
  case atStart => exact ⟨0, Nat.zero_le _, rfl, rfl, Nm.clean_zero s⟩
  case round =>
    obtain ⟨k, hk, rfl, rfl, HC⟩ := hrel
    by_cases hlt : k < s.size
    · have hlt' : (k : Int) < (s.size : Int) := by omega
      obtain ⟨c, hc⟩ : ∃ c, s[k]'hlt = c := ⟨_, rfl⟩
      by_cases c1 : c.toNat = 47
      · have H : Hid (Nm.err s = 409) := Nm.err_no (Nm.clean_bad hlt (.inl (by rw [hc]; exact c1)))
        have c1' : ((c.toNat : Int) == 47) = true := by simp [c1]
        go_wp2
        go_ret
        rw [H.out]
        exact ⟨rfl, rfl⟩
      · have c1' : ((c.toNat : Int) == 47) = false := beq_eq_false_iff_ne.2 (by omega)
        by_cases c0 : c.toNat = 0
        · have H : Hid (Nm.err s = 409) := Nm.err_no (Nm.clean_bad hlt (.inr (by rw [hc]; exact c0)))
          have c0' : ((c.toNat : Int) == 0) = true := by simp [c0]
          go_wp2
          go_ret
          rw [H.out]
          exact ⟨rfl, rfl⟩
        · have c0' : ((c.toNat : Int) == 0) = false := beq_eq_false_iff_ne.2 (by omega)
          have HC2 : Hid (Nm.clean s (k + 1)) := Nm.clean_succ hlt HC.out (by rw [hc]; exact c1) (by rw [hc]; exact c0)
          go_wp2
          go_roundw
          case rel => exact ⟨k + 1, by omega, by go_num, trivial, HC2⟩
          case measure => simp [intOf]; omega
    · have H : Hid (Nm.err s = 0) := Nm.err_ok ⟨H2.out.1, H2.out.2.1, H2.out.2.2.1, H2.out.2.2.2, by
        have := HC.out
        rwa [show k = s.size by omega] at this⟩
      have hlt' : ¬ (k : Int) < (s.size : Int) := by omega
      go_wp2
      go_ret
      rw [H.out]
      exact ⟨rfl, rfl⟩
end Go.Proofs.YtkdhbjmpjbdobaaGreatDoor.Ns
