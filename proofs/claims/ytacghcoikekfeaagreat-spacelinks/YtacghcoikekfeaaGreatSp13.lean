/-
  Spaces: a table stays right where a folder has other entries or a file other links (no program).
-/
import Derived.Test.YtacghcoikekfeaaGreatSp12
namespace Go.Proofs.YtacghcoikekfeaaGreat
open Go.ChangeShapes Go.WideShapes Go.ChangeAt Go.RowKit Go.Deep It
set_option maxRecDepth 100000
namespace Sp
theorem right_set {L : List Ino} {k : Nat} {x y : Ino} (hr : It.right L = true) (hx : L[k]? = some x) (hy : one y = true) (hk : y.kind = x.kind) : It.right (L.set k y) = true := by
  obtain ⟨hl, h0, ha⟩ := It.right_iff.1 hr
  refine It.right_iff.2 ⟨by simpa using hl, ?_, fun z hz => ?_⟩
  · cases L with
    | nil => simp at hx
    | cons z l =>
      cases k with
      | zero =>
        simp at hx
        subst hx
        simp only [List.set_cons_zero, rootB, decide_eq_true_eq] at h0 ⊢
        rw [hk]
        exact h0
      | succ k =>
        simp only [List.set_cons_succ, rootB] at h0 ⊢
        exact h0
  · rcases List.mem_or_eq_of_mem_set hz with h | rfl
    · exact ha z h
    · exact hy
theorem put_set {L : List Ino} {k : Nat} {x y : Ino} (hx : L[k]? = some x) : put L k y = L.set k y := by
  unfold put
  rw [if_pos (List.getElem?_eq_some_iff.1 hx).1]
theorem putTab_set {L : List Ino} {k : Nat} {b : Int} {x y : Ino} (hf : findErr L k b = 0) (hx : L[k]? = some x) (hg : y.gen = b) (h0 : y.kind ≠ 0) (hy : one y = true) (hk : y.kind = x.kind) : putErr L k b y = 0 ∧ putTab L k b y = L.set k y := by
  obtain ⟨_, _, _, _, _, _, _, hr⟩ := find_get hf
  have e : put L ((k : Int)).toNat y = L.set k y := by rw [show ((k : Int)).toNat = k by omega]; exact put_set hx
  have h : putErr L k b y = 0 := by
    unfold putErr
    rw [if_pos hf, if_pos ⟨hg, h0⟩, e, if_pos (right_set hr hx hy hk)]
  exact ⟨h, by unfold putTab; rw [if_pos h, e]⟩
theorem one_iff_dir {x : Ino} (hk : x.kind = 2) : one x = true ↔ (1 ≤ x.gen ∧ x.gen ≤ 1099511627776) ∧ At.right x.kind x.links x.size x.stamp = true ∧ x.runs = [] := by
  unfold one
  rw [if_pos hk]
  simp
theorem one_filled {x : Ino} {es : List Ent} {nx st : Int} (h : one x = true) (hk : x.kind = 2) (hs : 0 ≤ st ∧ st ≤ 1099511627776) (hn : es.length ≤ 1048576) : one (filled x es nx st) = true := by
  obtain ⟨hg, ha, hr⟩ := (one_iff_dir hk).1 h
  refine (one_iff_dir (x := filled x es nx st) hk).2 ⟨hg, ?_, hr⟩
  have hp := At.right_iff.1 ha
  refine At.right_iff.2 ?_
  show At.rightP x.kind x.links es.length st
  unfold At.rightP at hp ⊢
  omega
theorem one_linked {x : Ino} {n st : Int} (h : one x = true) (hk : x.kind = 1) (hs : 0 ≤ st ∧ st ≤ 1099511627776) (hn : 0 ≤ x.links + n ∧ x.links + n ≤ 64) : one (linked x n st) = true := by
  unfold one at h ⊢
  simp only [Bool.and_eq_true] at h ⊢
  obtain ⟨hg, ha, hr⟩ := h
  refine ⟨hg, ?_, hr⟩
  have hp := At.right_iff.1 ha
  refine At.right_iff.2 ?_
  show At.rightP x.kind (x.links + n) x.size st
  unfold At.rightP at hp ⊢
  omega
end Sp
end Go.Proofs.YtacghcoikekfeaaGreat
