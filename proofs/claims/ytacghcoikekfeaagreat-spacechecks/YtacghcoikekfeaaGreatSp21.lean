/-
  Spaces: what Rename tells, and the table between its two changes (no program).
-/
import Derived.Test.YtacghcoikekfeaaGreatSp20
namespace Go.Proofs.YtacghcoikekfeaaGreat
open Go.ChangeShapes Go.WideShapes Go.ChangeAt Go.RowKit Go.Deep It
set_option maxRecDepth 100000
namespace Sp
theorem fold_le {st : Int} (L : List Ino) : ∀ m : Int, m ≤ st → (∀ x ∈ L, x.stamp ≤ st) → L.foldl (fun m x => max m x.stamp) m ≤ st := by
  induction L with
  | nil => intro m hm _; exact hm
  | cons x L ih => exact fun m hm h => ih (max m x.stamp) (by have := h x (by simp); omega) (fun y hy => h y (by simp [hy]))
theorem top_le {st : Int} {L : List Ino} (h0 : 0 ≤ st) (h : ∀ x ∈ L, x.stamp ≤ st) : top L ≤ st := fold_le L 0 h0 h
theorem moveErr_zero {I : List Ino → Int → Int → Bool} {L : List Ino} {no a b : Int} {s : ByteArray} (h : moveErr I L no a b s = 0) : dirErr L a b = 0 := by
  unfold moveErr at h
  split at h
  · exact absurd h (by decide)
  · exact (nameErr_zero h).1
/-- The folder that a name moves to, in the table that has a name less. -/
noncomputable def midI (L : List Ino) (a b : Int) (s : ByteArray) (st c : Int) : Ino := ((lessDir L a b s st)[c.toNat]?).getD zeroI
/-- What Rename tells. -/
noncomputable def rnE (C : List Ino → Int) (I : List Ino → Int → Int → Bool) (L : List Ino) (a b : Int) (s : ByteArray) (c d : Int) (s2 : ByteArray) (st : Int) : Int :=
  if toErr C L st a b s = 0 then (if moveErr I L (toH C L st a b s).1 c d s2 = 0 then Fo.addErr (midI L a b s st c).ents (midI L a b s st c).next s2 (toH C L st a b s).1 (toH C L st a b s).2 else moveErr I L (toH C L st a b s).1 c d s2) else toErr C L st a b s
noncomputable def rnT (C : List Ino → Int) (I : List Ino → Int → Int → Bool) (L : List Ino) (a b : Int) (s : ByteArray) (c d : Int) (s2 : ByteArray) (st : Int) : List Ino :=
  if rnE C I L a b s c d s2 st = 0 then (lessDir L a b s st).set c.toNat (filled (midI L a b s st c) ((midI L a b s st c).ents ++ [(s2, (midI L a b s st c).next + 1, (toH C L st a b s).1, (toH C L st a b s).2)]) ((midI L a b s st c).next + 1) st) else []
/-- What stands of the folder that a name moves to, between the two changes. -/
theorem mid {L : List Ino} {kc kd : Nat} {xc xd : Ino} {es : List Ent} {st : Int} (hxc : L[kc]? = some xc) (hkc : xc.kind = 2) (hlc : es.length ≤ 1536) (hsub : ∀ e ∈ es, e ∈ xc.ents) (hst : top L ≤ st ∧ st ≤ 1099511627776)
    (hxd : L[kd]? = some xd) (hkd : xd.kind = 2) (hld : xd.ents.length ≤ 1536) (hr1 : It.right (L.set kc (filled xc es xc.next st)) = true) :
    ∃ x1 : Ino, (L.set kc (filled xc es xc.next st))[kd]? = some x1 ∧ x1.gen = xd.gen ∧ x1.kind = 2 ∧ x1.ents.length ≤ 1536 ∧ (∀ e ∈ x1.ents, e ∈ xd.ents) ∧ findErr (L.set kc (filled xc es xc.next st)) kd xd.gen = 0 ∧
      ∀ (e : Ent) (nx : Int), At.growErr x1.kind x1.links x1.size x1.stamp (x1.ents.length + 1) st = 0 ∧ putTab (L.set kc (filled xc es xc.next st)) kd xd.gen (filled x1 (x1.ents ++ [e]) nx st) = (L.set kc (filled xc es xc.next st)).set kd (filled x1 (x1.ents ++ [e]) nx st) := by
  have hst0 : 0 ≤ st := Int.le_trans (top_nonneg _) hst.1
  have htop : top (L.set kc (filled xc es xc.next st)) ≤ st := by
    refine top_le hst0 fun x hx => ?_
    rcases List.mem_or_eq_of_mem_set hx with h | rfl
    · exact Int.le_trans (top_ge h) hst.1
    · exact Int.le_refl _
  have key : ∃ x1 : Ino, (L.set kc (filled xc es xc.next st))[kd]? = some x1 ∧ x1.gen = xd.gen ∧ x1.kind = 2 ∧ x1.ents.length ≤ 1536 ∧ ∀ e ∈ x1.ents, e ∈ xd.ents := by
    by_cases h : kc = kd
    · subst h
      rw [hxc] at hxd
      obtain rfl := Option.some.inj hxd
      refine ⟨filled xc es xc.next st, ?_, rfl, hkc, hlc, hsub⟩
      rw [List.getElem?_set_self (List.getElem?_eq_some_iff.1 hxc).1]
    · exact ⟨xd, by rw [List.getElem?_set_ne h]; exact hxd, rfl, hkd, hld, fun _ h => h⟩
  obtain ⟨x1, hx1, hg1, hk1, hl1, hs1⟩ := key
  have hone := (It.right_iff.1 hr1).2.2 x1 (List.mem_of_getElem? hx1)
  have hf1 : findErr (L.set kc (filled xc es xc.next st)) kd xd.gen = 0 := by
    unfold findErr
    rw [if_pos hr1, if_pos ?_]
    unfold names
    rw [show ((kd : Int)).toNat = kd by omega, hx1]
    simp [hg1, hk1]
  refine ⟨x1, hx1, hg1, hk1, hl1, hs1, hf1, fun e nx => ⟨grow_ok hr1 hx1 (by omega) ⟨htop, hst.2⟩ ⟨by omega, by omega⟩, ?_⟩⟩
  exact (putTab_set (y := filled x1 (x1.ents ++ [e]) nx st) hf1 hx1 hg1 (by show x1.kind ≠ 0; omega) (one_filled hone hk1 ⟨hst0, hst.2⟩ (by simp; omega)) rfl).2
end Sp
end Go.Proofs.YtacghcoikekfeaaGreat
