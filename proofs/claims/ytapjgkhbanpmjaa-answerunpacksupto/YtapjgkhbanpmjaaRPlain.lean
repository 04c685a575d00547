/-
  Replies as plain data: which are right, their fields, and the reply that fields say.
-/
import Derived.Test.YtapjgkhbanpmjaaNAttrP
import Derived.Test.YtapjgkhbanpmjaaNPlain
import Derived.Test.YtapjgkhbanpmjaaKBackP
import Derived.Test.YtapjgkhbanpmjaaFind
namespace Go.Proofs.Ytapjgkhbanpmjaa
open Ak
structure Rep where
  e : Int
  no : Int
  gen : Int
  k : Int
  l : Int
  s : Int
  t : Int
  data : ByteArray
  ents : List Ent
  n : Int
namespace Re
def zero : Rep := ⟨0, 0, 0, 0, 0, 0, 0, ⟨#[]⟩, [], 0⟩
def entP (last : Int) (x : Ent) : Prop := (last + 1 ≤ x.2.1 ∧ x.2.1 ≤ 1099511627776) ∧ Nm.ok x.1 ∧ hokP x.2.2.1 x.2.2.2
def entsP : Int → List Ent → Prop
  | _, [] => True
  | last, x :: l => entP last x ∧ entsP x.2.1 l
def rightP (r : Rep) : Prop := (0 ≤ r.e ∧ r.e ≤ 65535) ∧ hokP r.no r.gen ∧ At.right r.k r.l r.s r.t = true ∧ r.data.size ≤ 512 ∧ (r.ents.length ≤ 64 ∧ entsP 0 r.ents) ∧ (0 ≤ r.n ∧ r.n ≤ 1099511627776)
noncomputable def right (r : Rep) : Bool := @decide (rightP r) (Classical.propDecidable _)
theorem right_iff {r : Rep} : right r = true ↔ rightP r := by unfold right; simp
theorem wrong_iff {r : Rep} : right r = false ↔ ¬ rightP r := by unfold right; simp
noncomputable def entsB (l : List Ent) : Bool := @decide (l.length ≤ 64 ∧ entsP 0 l) (Classical.propDecidable _)
theorem entsB_iff {l : List Ent} : entsB l = true ↔ (l.length ≤ 64 ∧ entsP 0 l) := by unfold entsB; simp
theorem entsB_no {l : List Ent} : entsB l = false ↔ ¬ (l.length ≤ 64 ∧ entsP 0 l) := by unfold entsB; simp

def anz (k l s t : Int) : Bool := !(k == 0 && (l == 0 && (s == 0 && t == 0)))
def ebytes (x : Ent) : ByteArray := Pl.numOut x.2.1 6 ++ hbytes x.2.2.1 x.2.2.2 ++ x.1
def f1 (r : Rep) : List (Int × ByteArray) := opt (r.e != 0) (1, Pl.numOut r.e 2)
def f2 (r : Rep) := f1 r ++ opt (hnz r.no r.gen) (2, hbytes r.no r.gen)
def f3 (r : Rep) := f2 r ++ opt (anz r.k r.l r.s r.t) (3, At.packOut r.k r.l r.s r.t)
def f4 (r : Rep) := f3 r ++ opt (snz r.data) (4, r.data)
def ef (l : List Ent) : List (Int × ByteArray) := l.map fun x => (5, ebytes x)
def f5 (r : Rep) := f4 r ++ ef r.ents
def fields (r : Rep) := f5 r ++ opt (r.n != 0) (6, Pl.numOut r.n 6)
noncomputable def packOut (r : Rep) : ByteArray := if right r then Pl.txt (Pl.encs (fields r)) else ⟨#[]⟩
noncomputable def packErr (r : Rep) : Int := if right r then 0 else 4

theorem entsP_mem : ∀ {l : List Ent} {last : Int}, entsP last l → 0 ≤ last → ∀ x ∈ l, (1 ≤ x.2.1 ∧ x.2.1 ≤ 1099511627776) ∧ Nm.ok x.1 ∧ hokP x.2.2.1 x.2.2.2
  | [], _, _, _, x, hx => by cases hx
  | y :: l, last, h, h0, x, hx => by
    obtain ⟨⟨⟨h1, h2⟩, h3, h4⟩, h5⟩ := h
    rcases List.mem_cons.1 hx with rfl | hx
    · exact ⟨⟨by omega, h2⟩, h3, h4⟩
    · exact entsP_mem h5 (by omega) x hx
theorem cookie_of {c : Int} (h : 1 ≤ c ∧ c ≤ 1099511627776) : 0 ≤ c ∧ c.toNat < 256 ^ 6 := ⟨by omega, by omega⟩
theorem ebytes_size {x : Ent} (hc : 1 ≤ x.2.1 ∧ x.2.1 ≤ 1099511627776) (hh : hokP x.2.2.1 x.2.2.2) : (ebytes x).size = 13 + x.1.size := by
  have h1 : (Pl.numOut x.2.1 6).size = 6 := num_size (z := 6) (cookie_of hc).1 (by omega) (by omega) (cookie_of hc).2
  have h2 := hbytes_size hh
  unfold ebytes
  rw [ByteArray.size_append, ByteArray.size_append, h1, h2]
/-- The entry that bytes are. -/
def entOf (s : ByteArray) : Ent := if s.size < 13 then (⟨#[]⟩, 0, 0, 0) else (s.extract 13 s.size, Pl.numVal (s.extract 0 6), hno (s.extract 6 13), hgen (s.extract 6 13))
theorem ent_back {x : Ent} (hc : 1 ≤ x.2.1 ∧ x.2.1 ≤ 1099511627776) (hh : hokP x.2.2.1 x.2.2.2) : entOf (ebytes x) = x := by
  have hs := ebytes_size hc hh
  have h1 : (Pl.numOut x.2.1 6).size = 6 := num_size (z := 6) (cookie_of hc).1 (by omega) (by omega) (cookie_of hc).2
  have h2 := hbytes_size hh
  unfold entOf
  rw [if_neg (by omega), hs]
  unfold ebytes
  have e0 : (Pl.numOut x.2.1 6 ++ hbytes x.2.2.1 x.2.2.2 ++ x.1).extract 0 6 = Pl.numOut x.2.1 6 := by
    rw [Pl.ba_assoc]; exact extract_left _ _ 6 h1
  have e1 : (Pl.numOut x.2.1 6 ++ hbytes x.2.2.1 x.2.2.2 ++ x.1).extract 6 13 = hbytes x.2.2.1 x.2.2.2 := Pl.cut_mid _ _ _ 6 13 h1 (by omega)
  have e2 : (Pl.numOut x.2.1 6 ++ hbytes x.2.2.1 x.2.2.2 ++ x.1).extract 13 (13 + x.1.size) = x.1 := extract_right _ _ 13 _ (by rw [ByteArray.size_append]; omega) (by rw [ByteArray.size_append]; omega)
  rw [e0, e1, e2, (hback hh).1, (hback hh).2]
  have e3 : Pl.numVal (Pl.numOut x.2.1 6) = x.2.1 := val_num (z := 6) (cookie_of hc).1 (by omega) (by omega) (cookie_of hc).2
  rw [e3]

/-- The attributes that bytes are. -/
def ua (S : ByteArray) : Int × Int × Int × Int := if At.unpErr S = 0 then (At.k S, At.l S, At.s S, At.t S) else (0, 0, 0, 0)
theorem ua_out (S : ByteArray) : At.unpOut S = VA (ua S).1 (ua S).2.1 (ua S).2.2.1 (ua S).2.2.2 := by
  unfold At.unpOut ua
  split <;> rfl
theorem ua_back {k l s t : Int} (h : At.right k l s t = true) : ua (At.packOut k l s t) = (k, l, s, t) := by
  obtain ⟨_, h1, h2⟩ := At.back h
  rw [ua_out] at h2
  simp only [Value.agg.injEq, Array.mk.injEq, List.cons.injEq, Value.int.injEq, true_and, and_true] at h2
  obtain ⟨a, b, c, d⟩ := h2
  exact Prod.ext a (Prod.ext b (Prod.ext c d))

/-- The reply that fields say. -/
def replyOf (l : List (Int × ByteArray)) : Rep :=
  ⟨Pl.numVal (lastOf l 1), hno (lastOf l 2), hgen (lastOf l 2), (ua (lastOf l 3)).1, (ua (lastOf l 3)).2.1, (ua (lastOf l 3)).2.2.1, (ua (lastOf l 3)).2.2.2, lastOf l 4, (Pl.allOf l 5).map entOf, Pl.numVal (lastOf l 6)⟩
theorem lastOf_opt (l : List (Int × ByteArray)) (b : Bool) (t : Int) (s : ByteArray) (u : Int) : lastOf (l ++ opt b (t, s)) u = if b = true ∧ t = u then s else lastOf l u := by
  unfold opt
  cases b with
  | true =>
    rw [if_pos rfl, lastOf_snoc]
    by_cases h : t = u <;> simp [h]
  | false => simp
theorem lastOf_ents (es : List Ent) (l : List (Int × ByteArray)) (u : Int) (h : u ≠ 5) : lastOf (l ++ ef es) u = lastOf l u := by
  induction es using rev_ind with
  | h0 => simp [ef]
  | h1 es x ih =>
    have : ef (es ++ [x]) = ef es ++ [(5, ebytes x)] := by simp [ef]
    rw [this, ← List.append_assoc, lastOf_snoc, if_neg (by simp only; omega), ih]
theorem allOf_append (a b : List (Int × ByteArray)) (t : Int) : Pl.allOf (a ++ b) t = Pl.allOf a t ++ Pl.allOf b t := by simp [Pl.allOf]
theorem allOf_opt (b : Bool) (t : Int) (s : ByteArray) (u : Int) (h : t ≠ u) : Pl.allOf (opt b (t, s)) u = [] := by
  unfold opt
  cases b <;> simp [Pl.allOf, h]
theorem allOf_ef (es : List Ent) : Pl.allOf (ef es) 5 = es.map ebytes := by
  unfold ef Pl.allOf
  rw [List.filter_eq_self.2 (by intro x hx; obtain ⟨y, _, rfl⟩ := List.mem_map.1 hx; simp), List.map_map]
  rfl
theorem replyOf_fields {r : Rep} (h : rightP r) : replyOf (fields r) = r := by
  obtain ⟨he, hh, ha, hd, ⟨hl, hx⟩, hn⟩ := h
  have hm := entsP_mem hx (Int.le_refl 0)
  have z0 : ∀ u, lastOf ([] : List (Int × ByteArray)) u = ⟨#[]⟩ := fun _ => rfl
  have c1 : lastOf (f1 r) 1 = if (r.e != 0) = true then Pl.numOut r.e 2 else ⟨#[]⟩ := by
    have := lastOf_opt [] (r.e != 0) 1 (Pl.numOut r.e 2) 1
    rw [List.nil_append] at this
    unfold f1
    rw [this]
    simp [z0]
  have d1 : ∀ u, u ≠ 1 → lastOf (f1 r) u = ⟨#[]⟩ := fun u hu => by
    have := lastOf_opt [] (r.e != 0) 1 (Pl.numOut r.e 2) u
    rw [List.nil_append] at this
    unfold f1
    rw [this, if_neg (by intro hh; exact hu hh.2.symm), z0]
  have v1 : lastOf (fields r) 1 = lastOf (f1 r) 1 := by
    unfold fields f5 f4 f3 f2
    rw [lastOf_opt, if_neg (by simp), lastOf_ents _ _ _ (by decide), lastOf_opt, if_neg (by simp), lastOf_opt, if_neg (by simp), lastOf_opt, if_neg (by simp)]
  have v2 : lastOf (fields r) 2 = if hnz r.no r.gen = true then hbytes r.no r.gen else ⟨#[]⟩ := by
    unfold fields f5 f4 f3 f2
    rw [lastOf_opt, if_neg (by simp), lastOf_ents _ _ _ (by decide), lastOf_opt, if_neg (by simp), lastOf_opt, if_neg (by simp), lastOf_opt, d1 2 (by decide)]
    simp
  have v3 : lastOf (fields r) 3 = if anz r.k r.l r.s r.t = true then At.packOut r.k r.l r.s r.t else ⟨#[]⟩ := by
    unfold fields f5 f4 f3 f2
    rw [lastOf_opt, if_neg (by simp), lastOf_ents _ _ _ (by decide), lastOf_opt, if_neg (by simp), lastOf_opt, lastOf_opt, d1 3 (by decide)]
    simp
  have v4 : lastOf (fields r) 4 = if snz r.data = true then r.data else ⟨#[]⟩ := by
    unfold fields f5 f4 f3 f2
    rw [lastOf_opt, if_neg (by simp), lastOf_ents _ _ _ (by decide), lastOf_opt, lastOf_opt, lastOf_opt, d1 4 (by decide)]
    simp
  have v6 : lastOf (fields r) 6 = if (r.n != 0) = true then Pl.numOut r.n 6 else ⟨#[]⟩ := by
    unfold fields f5 f4 f3 f2
    rw [lastOf_opt, lastOf_ents _ _ _ (by decide), lastOf_opt, lastOf_opt, lastOf_opt, d1 6 (by decide)]
    simp
  have v5 : Pl.allOf (fields r) 5 = r.ents.map ebytes := by
    unfold fields f5 f4 f3 f2 f1
    simp only [allOf_append]
    rw [allOf_opt _ _ _ _ (by decide), allOf_opt _ _ _ _ (by decide), allOf_opt _ _ _ _ (by decide), allOf_opt _ _ _ _ (by decide), allOf_opt _ _ _ _ (by decide), allOf_ef]
    simp
  have w5 : (r.ents.map ebytes).map entOf = r.ents := by
    rw [List.map_map]
    have : ∀ x ∈ r.ents, (entOf ∘ ebytes) x = x := fun x hx => ent_back (hm x hx).1 (hm x hx).2.2
    exact (List.map_congr_left this).trans (List.map_id _)
  have nz : Pl.numVal ⟨#[]⟩ = 0 := by decide
  have hz : hno ⟨#[]⟩ = 0 ∧ hgen ⟨#[]⟩ = 0 := by decide
  have uz : ua ⟨#[]⟩ = (0, 0, 0, 0) := by
    unfold ua
    rw [if_neg]
    unfold At.unpErr
    rw [if_neg (by decide)]
    decide
  have a1 : Pl.numVal (lastOf (fields r) 1) = r.e := by
    rw [v1, c1]
    by_cases h0 : r.e = 0
    · simp [h0, nz]
    · rw [if_pos (by simpa using h0)]; exact val_num (z := 2) (by omega) (by omega) (by omega) (by omega)
  have a2 : hno (lastOf (fields r) 2) = r.no ∧ hgen (lastOf (fields r) 2) = r.gen := by
    rw [v2]
    cases hq : hnz r.no r.gen with
    | true => rw [if_pos rfl]; exact hback hh
    | false => obtain ⟨e1, e2⟩ := hz_of hq; rw [if_neg (by decide), e1, e2]; exact hz
  have a3 : ua (lastOf (fields r) 3) = (r.k, r.l, r.s, r.t) := by
    rw [v3]
    cases hq : anz r.k r.l r.s r.t with
    | true => rw [if_pos rfl]; exact ua_back ha
    | false =>
      unfold anz at hq
      simp at hq
      obtain ⟨e1, e2, e3, e4⟩ := hq
      rw [if_neg (by decide), e1, e2, e3, e4]
      exact uz
  have a4 : lastOf (fields r) 4 = r.data := by
    rw [v4]
    cases hq : snz r.data with
    | true => rw [if_pos rfl]
    | false => rw [if_neg (by decide), empty_of hq]
  have a6 : Pl.numVal (lastOf (fields r) 6) = r.n := by
    rw [v6]
    by_cases h0 : r.n = 0
    · simp [h0, nz]
    · rw [if_pos (by simpa using h0)]; exact val_num (z := 6) (by omega) (by omega) (by omega) (by omega)
  unfold replyOf
  rw [a1, a2.1, a2.2, a3, a4, v5, w5, a6]
end Re
end Go.Proofs.Ytapjgkhbanpmjaa
