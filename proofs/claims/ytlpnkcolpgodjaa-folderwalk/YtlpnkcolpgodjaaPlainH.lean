/-
  Folders step by step: a right folder stays right, what is there is found. No program.
-/
import Derived.Test.YtlpnkcolpgodjaaRefP
namespace Go.Proofs.Ytlpnkcolpgodjaa
namespace Fo
theorem called_not {s : ByteArray} {x : Ent} : called s x = false ↔ x.1 ≠ s := by
  rw [← Bool.not_eq_true, called_iff]
def okE (next : Int) (x : Ent) : Prop := Nm.ok x.1 ∧ (1 ≤ x.2.1 ∧ x.2.1 ≤ next) ∧ Ho x.2.2.1 x.2.2.2
theorem right_iff {l : List Ent} {next : Int} : Right l next ↔ (0 ≤ next ∧ next ≤ 1099511627776) ∧ (∀ x ∈ l, okE next x) ∧ l.Pairwise (fun a b => a.2.1 < b.2.1) ∧ apart l := by
  constructor
  · intro h
    refine ⟨h.1, fun x hx => ?_, ?_, h.2.2⟩
    · obtain ⟨i, hi⟩ := List.mem_iff_getElem?.1 hx
      have hl := (List.getElem?_eq_some_iff.1 hi).1
      have hg := h.2.1 i hl x hi
      have hb := lastC_bd (k := i) (fun j hj => h.2.1 j (by omega)) (by omega) h.1.1
      exact ⟨hg.1, ⟨by omega, hg.2.1.2⟩, hg.2.2⟩
    · rw [List.pairwise_iff_getElem]
      intro i j hi hj hij
      exact rising h j i _ _ hij (List.getElem?_eq_getElem hi) (List.getElem?_eq_getElem hj)
  · rintro ⟨h1, h2, h3, h4⟩
    refine ⟨h1, fun i hi x hx => ?_, h4⟩
    have hm := h2 x (List.mem_of_getElem? hx)
    refine ⟨hm.1, ⟨?_, hm.2.1.2⟩, hm.2.2⟩
    cases i with
    | zero =>
      have := hm.2.1.1
      simpa [lastC] using this
    | succ i =>
      have hy : l[i]? = some (l[i]'(by omega)) := List.getElem?_eq_getElem _
      rw [lastC_succ hy]
      have h5 := List.pairwise_iff_getElem.1 h3 i (i + 1) (by omega) hi (by omega)
      have h6 := (List.getElem?_eq_some_iff.1 hx).2
      rw [h6] at h5
      omega
theorem okE_mono {next next' : Int} {x : Ent} (h : okE next x) (hn : next ≤ next') : okE next' x := ⟨h.1, ⟨h.2.1.1, by have := h.2.1.2; omega⟩, h.2.2⟩
theorem right_add {l : List Ent} {next : Int} {s : ByteArray} {no gen : Int} (h : Right l next) (hs : Nm.ok s) (ho : Ho no gen) (ha : at' (called s) l = -1) (hn : next < 1099511627776) : Right (l ++ [(s, next + 1, no, gen)]) (next + 1) := by
  obtain ⟨h1, h2, h3, h4⟩ := right_iff.1 h
  have hno : ∀ x ∈ l, x.1 ≠ s := by
    rcases at_or (called s) l with ⟨-, hall⟩ | ⟨k, x, ht, -, -, -⟩
    · exact fun x hx => called_not.1 (hall x hx)
    · rw [ha] at ht
      omega
  refine right_iff.2 ⟨⟨by omega, by omega⟩, fun x hx => ?_, ?_, ?_⟩
  · rcases List.mem_append.1 hx with hx | hx
    · exact okE_mono (h2 x hx) (by omega)
    · simp at hx
      subst hx
      exact ⟨hs, ⟨by simp; omega, by simp⟩, ho⟩
  · rw [List.pairwise_append]
    refine ⟨h3, by simp, fun a ha b hb => ?_⟩
    simp at hb
    subst hb
    have := (h2 a ha).2.1.2
    simp
    omega
  · unfold apart at h4 ⊢
    rw [List.map_append, List.nodup_append]
    refine ⟨h4, by simp, fun a hma b hb => ?_⟩
    simp at hb
    subst hb
    obtain ⟨x, hx, rfl⟩ := List.mem_map.1 hma
    exact hno x hx
theorem right_cut {l : List Ent} {next : Int} (h : Right l next) (k : Nat) : Right (l.eraseIdx k) next := by
  obtain ⟨h1, h2, h3, h4⟩ := right_iff.1 h
  have hsub := List.eraseIdx_sublist l k
  refine right_iff.2 ⟨h1, fun x hx => h2 x (hsub.mem hx), h3.sublist hsub, ?_⟩
  unfold apart at h4 ⊢
  exact (hsub.map _).nodup h4
/-- What is there is found. -/
theorem found_at {l : List Ent} {next : Int} (h : Right l next) {i : Nat} {x : Ent} (hx : l[i]? = some x) : findErr l next x.1 = 0 ∧ found l next x.1 = x ∧ at' (called x.1) l = i := by
  obtain ⟨h1, h2, h3, h4⟩ := right_iff.1 h
  have hok := (h2 x (List.mem_of_getElem? hx)).1
  have hat : at' (called x.1) l = i := at_hit hx (called_iff.2 rfl) fun j y hj hy => called_not.2 fun he => by
    unfold apart at h4
    have hi := (List.getElem?_eq_some_iff.1 hx).1
    have hjl := (List.getElem?_eq_some_iff.1 hy).1
    have h5 := List.pairwise_iff_getElem.1 h4 j i (by simpa using hjl) (by simpa using hi) hj
    simp only [List.getElem_map] at h5
    rw [(List.getElem?_eq_some_iff.1 hx).2, (List.getElem?_eq_some_iff.1 hy).2] at h5
    exact h5 he
  have ha := ask_zero h hok
  have := findErr_hit ha hat
  exact ⟨this.1, found_hit this.1 this.2 hx, hat⟩
theorem find_has {l : List Ent} {next : Int} {s : ByteArray} {k : Nat} (h : Right l next) (ha : at' (called s) l = k) : findErr l next s = 0 ∧ plc l next s = k := by
  rcases at_or (called s) l with ⟨ht, -⟩ | ⟨k', x, ht, hx, hc, -⟩
  · rw [ha] at ht
    omega
  · have hs := called_iff.1 hc
    obtain ⟨-, h2, -, -⟩ := right_iff.1 h
    have hok := (h2 x (List.mem_of_getElem? hx)).1
    rw [hs] at hok
    exact findErr_hit (ask_zero h hok) ha
theorem find_not {l : List Ent} {next : Int} {s : ByteArray} (ha : at' (called s) l = -1) : findErr l next s ≠ 0 := by
  rcases ask_or l next s with ⟨hk, -, -⟩ | ⟨hk, -⟩ | ⟨hk, -, -⟩
  · rw [(findErr_miss hk ha).1]
    decide
  · rw [(findErr_ask hk (by decide)).1]
    decide
  · rw [(findErr_ask hk (by decide)).1]
    decide
def adds (what : Int) : Bool := what == 0 || what == 1
/-- A folder behind a step. -/
noncomputable def stp (l : List Ent) (next : Int) (what : Int) (s : ByteArray) : List Ent × Int :=
  if adds what = true then (if addErr l next s 1 1 = 0 then (l ++ [(s, next + 1, 1, 1)], next + 1) else (l, next)) else (if findErr l next s = 0 then (l.eraseIdx (plc l next s).toNat, next) else (l, next))
theorem add_iff {l : List Ent} {next : Int} {s : ByteArray} (h : Right l next) (hn : next < 1099511627776) : addErr l next s 1 1 = 0 ↔ Nm.ok s ∧ at' (called s) l = -1 := by
  constructor
  · intro h0
    have := add_zero h0
    exact ⟨this.2.1, this.2.2.2.1⟩
  · rintro ⟨h1, h2⟩
    exact add_ok (ask_zero h h1) ho_one h2 (by omega)
theorem stp_right {l : List Ent} {next what : Int} {s : ByteArray} (h : Right l next) (hn : next < 1099511627776) : Right (stp l next what s).1 (stp l next what s).2 ∧ next ≤ (stp l next what s).2 ∧ (stp l next what s).2 ≤ next + 1 ∧ (stp l next what s).1.length ≤ l.length + 1 := by
  unfold stp
  by_cases ha : adds what = true
  · rw [if_pos ha]
    by_cases h0 : addErr l next s 1 1 = 0
    · rw [if_pos h0]
      have := (add_iff h hn).1 h0
      exact ⟨right_add h this.1 ho_one this.2 hn, by simp; omega, by simp, by simp⟩
    · rw [if_neg h0]
      exact ⟨h, by simp, by simp; omega, by simp⟩
  · rw [if_neg ha]
    by_cases h0 : findErr l next s = 0
    · rw [if_pos h0]
      exact ⟨right_cut h _, by simp, by simp; omega, by
        have := List.length_eraseIdx_le l (plc l next s).toNat
        simp only
        omega⟩
    · rw [if_neg h0]
      exact ⟨h, by simp, by simp; omega, by simp⟩
end Fo
end Go.Proofs.Ytlpnkcolpgodjaa
