/-
  Spaces: what stands where Check and the finding are well (no program).
-/
import Derived.Test.YtacghcoikekfeaaGreatSp11
namespace Go.Proofs.YtacghcoikekfeaaGreat
open Go.ChangeShapes Go.WideShapes Go.ChangeAt Go.RowKit Go.Deep It
set_option maxRecDepth 100000
namespace Sp
theorem fold_ge (L : List Ino) : ∀ m : Int, m ≤ L.foldl (fun m x => max m x.stamp) m ∧ ∀ x ∈ L, x.stamp ≤ L.foldl (fun m x => max m x.stamp) m := by
  induction L with
  | nil => exact fun m => ⟨Int.le_refl _, fun x hx => by cases hx⟩
  | cons y l ih =>
    intro m
    obtain ⟨h1, h2⟩ := ih (max m y.stamp)
    refine ⟨Int.le_trans (by omega) h1, fun x hx => ?_⟩
    rcases List.mem_cons.1 hx with rfl | hx
    · exact Int.le_trans (by omega) h1
    · exact h2 x hx
theorem top_ge {L : List Ino} {x : Ino} (h : x ∈ L) : x.stamp ≤ top L := (fold_ge L 0).2 x h
theorem top_nonneg (L : List Ino) : 0 ≤ top L := (fold_ge L 0).1
theorem attr_of {L : List Ino} (hr : It.right L = true) {x : Ino} (h : x ∈ L) : At.right x.kind x.links x.size x.stamp = true := by
  have := (It.right_iff.1 hr).2.2 x h
  unfold It.one at this
  simp only [Bool.and_eq_true] at this
  exact this.2.1
theorem grow_ok {L : List Ino} {k : Nat} {x : Ino} {st n : Int} (hr : It.right L = true) (hx : L[k]? = some x) (hk : x.kind ≠ 0) (hs : top L ≤ st ∧ st ≤ 1099511627776) (hn : 0 ≤ n ∧ n ≤ 1048576) : At.growErr x.kind x.links x.size x.stamp n st = 0 := by
  unfold At.growErr
  rw [if_pos (attr_of hr (List.mem_of_getElem? hx)), if_pos ⟨Int.le_trans (top_ge (List.mem_of_getElem? hx)) hs.1, hs.2⟩, if_neg hk, if_pos hn]
theorem link_ok {L : List Ino} {k : Nat} {x : Ino} {st n : Int} (hr : It.right L = true) (hx : L[k]? = some x) (hk : x.kind = 1) (hs : top L ≤ st ∧ st ≤ 1099511627776) (hn : (n = 1 ∧ x.links < 64) ∨ (n = -1 ∧ 0 < x.links)) : At.linkErr x.kind x.links x.size x.stamp n st = 0 := by
  have ha := attr_of hr (List.mem_of_getElem? hx)
  have hp := At.right_iff.1 ha
  unfold At.rightP at hp
  unfold At.linkErr
  rw [if_pos ha, if_pos ⟨by omega, Int.le_trans (top_ge (List.mem_of_getElem? hx)) hs.1, hs.2⟩, if_pos hk, if_neg (by omega), if_neg (by omega)]
theorem find_get {L : List Ino} {a b : Int} (h : findErr L a b = 0) : ∃ (k : Nat) (x : Ino), a = k ∧ L[k]? = some x ∧ x.gen = b ∧ x.kind ≠ 0 ∧ findI L a b = x ∧ It.right L = true := by
  have h0 := h
  unfold findErr at h
  by_cases hr : It.right L = true
  · rw [if_pos hr] at h
    by_cases hn : names L a b = true
    · unfold names at hn
      simp only [Bool.and_eq_true, decide_eq_true_eq] at hn
      obtain ⟨ha, hm⟩ := hn
      cases hx : L[a.toNat]? with
      | none => rw [hx] at hm; cases hm
      | some x =>
        rw [hx] at hm
        simp only [decide_eq_true_eq] at hm
        refine ⟨a.toNat, x, by omega, hx, hm.1, hm.2, ?_, hr⟩
        unfold findI
        rw [if_pos h0, hx]
        rfl
    · rw [if_neg hn] at h
      exact absurd h (by decide)
  · rw [if_neg hr] at h
    exact absurd h (by decide)
theorem dir_get {L : List Ino} {a b : Int} (h : dirErr L a b = 0) : ∃ (k : Nat) (x : Ino), a = k ∧ L[k]? = some x ∧ x.gen = b ∧ x.kind = 2 ∧ dirEnts L a b = x.ents ∧ dirNext L a b = x.next ∧ findErr L a b = 0 ∧ It.right L = true := by
  have h0 := h
  unfold dirErr at h
  by_cases hf : findErr L a b = 0
  · rw [if_pos hf] at h
    by_cases hk : (findI L a b).kind = 2
    · obtain ⟨k, x, hk1, hx, hg, -, hi, hr⟩ := find_get hf
      rw [hi] at hk
      refine ⟨k, x, hk1, hx, hg, hk, ?_, ?_, hf, hr⟩
      · unfold dirEnts
        rw [if_pos h0, hi]
      · unfold dirNext
        rw [if_pos h0, hi]
    · rw [if_neg hk] at h
      exact absurd h (by decide)
  · rw [if_neg hf] at h
    exact absurd h hf
theorem pl_some {L : List Rw} {k : Nat} {x : Ino} (h : (pl L)[k]? = some x) : ∃ y : Rw, L[k]? = some y ∧ y.i = x := by
  rw [List.getElem?_map] at h
  cases hy : L[k]? with
  | none => rw [hy] at h; cases h
  | some y =>
    rw [hy] at h
    exact ⟨y, rfl, by simpa using h⟩
end Sp
end Go.Proofs.YtacghcoikekfeaaGreat
