/-
  Spaces: what Make tells, and what stays of a table in which one was made (no program).
-/
import Derived.Test.YtacghcoikekfeaaGreatSp17
import Derived.Test.YtacghcoikekfeaaGreatPlainS
namespace Go.Proofs.YtacghcoikekfeaaGreat
open Go.ChangeShapes Go.WideShapes Go.ChangeAt Go.RowKit Go.Deep It
set_option maxRecDepth 100000
namespace Sp
theorem make_keep {L : List Ino} {kind st : Int} (hm : It.makeErr L kind st = 0) : It.right (makeTab L kind st) = true ∧ ∀ (k : Nat) (x : Ino), L[k]? = some x → x.kind ≠ 0 → (makeTab L kind st)[k]? = some x := by
  obtain ⟨hr, ha, hn, e1, -⟩ := make_next hm
  have hk : kind = 1 ∨ kind = 2 := by unfold argOk at ha; simp only [Bool.and_eq_true, decide_eq_true_eq] at ha; exact ha.1
  have hs0 : 0 ≤ st ∧ st ≤ 1099511627776 := by unfold argOk at ha; simp only [Bool.and_eq_true, decide_eq_true_eq] at ha; exact ha.2
  obtain ⟨hn1, hng⟩ := next_good hr
  obtain ⟨hb0, hb1⟩ := next_bd L
  have hlen := right_len24 hr
  rw [e1]
  refine ⟨right_put hr (by omega) (by omega) (by omega) (one_fresh hng hk hs0), fun k x hx hxk => ?_⟩
  have hput := put_at (x := fresh (next L).2 kind st) (show (next L).1.toNat ≤ L.length by omega) k
  have hne : k ≠ (next L).1.toNat := by
    intro h
    have hkl : k < L.length := (List.getElem?_eq_some_iff.1 hx).1
    rcases next_cases L with ⟨j, y, hy, hyk, -, e⟩ | e
    · rw [e] at h
      have hj : k = j := by simpa using h
      subst hj
      rw [hx] at hy
      cases hy
      exact hxk hyk
    · rw [e] at h
      simp at h
      omega
  rw [if_neg hne] at hput
  rw [hput]
  exact hx
theorem makeErr_zero {C : List Ino → Int} {L : List Ino} {a b : Int} {s : ByteArray} {kind st : Int} (h : makeErr C L a b s kind st = 0) : (C L = 0 ∧ top L ≤ st ∧ st ≤ 1099511627776) ∧ (kind = 1 ∨ kind = 2) ∧ dirErr L a b = 0 := by
  unfold makeErr at h
  by_cases hs : stErr C L st = 0
  · rw [if_pos hs] at h
    by_cases hk : kind = 1 ∨ kind = 2
    · rw [if_pos hk] at h
      exact ⟨stErr_zero hs, hk, (nameErr_zero h).1⟩
    · rw [if_neg hk] at h
      exact absurd h (by decide)
  · rw [if_neg hs] at h
    exact absurd h hs
/-- What Make tells. -/
noncomputable def mkE (C : List Ino → Int) (L : List Ino) (a b : Int) (s : ByteArray) (kind st : Int) : Int :=
  if makeErr C L a b s kind st = 0 then (if It.makeErr L kind st = 0 then Fo.addErr (dirEnts L a b) (dirNext L a b) s (makeH L kind st).1 (makeH L kind st).2 else It.makeErr L kind st) else makeErr C L a b s kind st
noncomputable def mkT (C : List Ino → Int) (L : List Ino) (a b : Int) (s : ByteArray) (kind st : Int) : List Ino :=
  if mkE C L a b s kind st = 0 then
    (makeTab L kind st).set a.toNat (filled (findI L a b) ((findI L a b).ents ++ [(s, (findI L a b).next + 1, (makeH L kind st).1, (makeH L kind st).2)]) ((findI L a b).next + 1) st)
  else []
noncomputable def mkH (C : List Ino → Int) (L : List Ino) (a b : Int) (s : ByteArray) (kind st : Int) : Int × Int :=
  if mkE C L a b s kind st = 0 then makeH L kind st else (0, 0)
end Sp
end Go.Proofs.YtacghcoikekfeaaGreat
