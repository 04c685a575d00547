/-
  Spaces: what stands where a name to go was found (no program).
-/
import Derived.Test.YtacghcoikekfeaaGreatSp14
namespace Go.Proofs.YtacghcoikekfeaaGreat
open Go.ChangeShapes Go.WideShapes Go.ChangeAt Go.RowKit Go.Deep It
set_option maxRecDepth 100000
namespace Sp
theorem lookErr_zero {L : List Ino} {a b : Int} {s : ByteArray} (h : lookErr L a b s = 0) : dirErr L a b = 0 ∧ Fo.findErr (dirEnts L a b) (dirNext L a b) s = 0 ∧ lookH L a b s = (Fo.found (dirEnts L a b) (dirNext L a b) s).2.2 := by
  unfold lookErr at h
  by_cases hd : dirErr L a b = 0
  · rw [if_pos hd] at h
    exact ⟨hd, h, by unfold lookH; rw [if_pos hd]⟩
  · rw [if_neg hd] at h
    exact absurd h hd
/-- A name to go that was found: the folder, the place, the inode. -/
theorem to_zero {C : List Ino → Int} (hM : ChkMeans C) {L : List Ino} {st a b : Int} {s : ByteArray} (h : toErr C L st a b s = 0) :
    ∃ (kc : Nat) (xc : Ino) (j : Nat) (e : Ent) (kt : Nat) (xt : Ino), a = kc ∧ L[kc]? = some xc ∧ xc.gen = b ∧ xc.kind = 2 ∧ findErr L a b = 0 ∧ Fo.findErr xc.ents xc.next s = 0 ∧ Fo.plc xc.ents xc.next s = j ∧ xc.ents[j]? = some e ∧
      toH C L st a b s = e.2.2 ∧ e.2.2.1 = kt ∧ kt ≠ 0 ∧ L[kt]? = some xt ∧ xt.gen = e.2.2.2 ∧ xt.kind ≠ 0 ∧ 1 ≤ xt.links ∧ findErr L e.2.2.1 e.2.2.2 = 0 ∧ findI L e.2.2.1 e.2.2.2 = xt ∧ findI L a b = xc ∧
      It.right L = true ∧ (top L ≤ st ∧ st ≤ 1099511627776) ∧ xc.ents.length ≤ 1536 := by
  unfold toErr at h
  by_cases hs : stErr C L st = 0
  · rw [if_pos hs] at h
    obtain ⟨hc0, hs1, hs2⟩ := stErr_zero hs
    obtain ⟨hr, -, hlen, hnm⟩ := hM _ hc0
    obtain ⟨hd, hf, hh⟩ := lookErr_zero h
    obtain ⟨kc, xc, hk, hx, hg, hk2, hde, hdn, hfe, -⟩ := dir_get hd
    obtain ⟨kc', xc', hk', hx', -, -, hi', -⟩ := find_get hfe
    obtain rfl : kc = kc' := by omega
    rw [hx] at hx'
    obtain rfl : xc = xc' := Option.some.inj hx'
    rw [hde, hdn] at hf hh
    rcases Fo.findErr_or xc.ents xc.next s with ⟨j, e, -, hp, hj, -, -, -, -⟩ | ⟨-, h4⟩
    · rw [Fo.found_hit hf hp hj] at hh
      obtain ⟨n1, n2, n3⟩ := hnm xc (List.mem_of_getElem? hx) e (List.mem_of_getElem? hj)
      obtain ⟨kt, xt, ht, hxt, hgt, hkt, hit, -⟩ := find_get n1
      rw [hit] at n2
      exact ⟨kc, xc, j, e, kt, xt, hk, hx, hg, hk2, hfe, hf, hp, hj, by unfold toH; rw [if_pos hs, hh], ht, by omega, hxt, hgt, hkt, n2, n1, hit, hi', hr, ⟨hs1, hs2⟩, hlen xc (List.mem_of_getElem? hx)⟩
    · omega
  · rw [if_neg hs] at h
    exact absurd h hs
/-- What Rmdir tells. -/
noncomputable def rmE (C : List Ino → Int) (L : List Ino) (a b : Int) (s : ByteArray) (st : Int) : Int :=
  if toErr C L st a b s = 0 then (if (findI L (toH C L st a b s).1 (toH C L st a b s).2).kind = 2 then (if (findI L (toH C L st a b s).1 (toH C L st a b s).2).ents = [] then 0 else 406) else 404) else toErr C L st a b s
noncomputable def lessDir (L : List Ino) (a b : Int) (s : ByteArray) (st : Int) : List Ino :=
  L.set a.toNat (filled (findI L a b) ((findI L a b).ents.eraseIdx (Fo.plc (findI L a b).ents (findI L a b).next s).toNat) (findI L a b).next st)
noncomputable def rmT (C : List Ino → Int) (L : List Ino) (a b : Int) (s : ByteArray) (st : Int) : List Ino :=
  if rmE C L a b s st = 0 then (lessDir L a b s st).set (toH C L st a b s).1.toNat (gone (toH C L st a b s).2) else []
/-- The table with a name less: right; the inode of another number is the same. -/
theorem less_right {L : List Ino} {kc : Nat} {xc : Ino} {s : ByteArray} {b st : Int} (hr : It.right L = true) (hx : L[kc]? = some xc) (hg : xc.gen = b) (hk : xc.kind = 2) (hf : findErr L kc b = 0) (hs : 0 ≤ st ∧ st ≤ 1099511627776) (hl : xc.ents.length ≤ 1536) :
    putTab L kc b (filled xc (xc.ents.eraseIdx (Fo.plc xc.ents xc.next s).toNat) xc.next st) = L.set kc (filled xc (xc.ents.eraseIdx (Fo.plc xc.ents xc.next s).toNat) xc.next st) ∧
      It.right (L.set kc (filled xc (xc.ents.eraseIdx (Fo.plc xc.ents xc.next s).toNat) xc.next st)) = true := by
  have ho := (It.right_iff.1 hr).2.2 xc (List.mem_of_getElem? hx)
  have h1 : one (filled xc (xc.ents.eraseIdx (Fo.plc xc.ents xc.next s).toNat) xc.next st) = true := one_filled ho hk hs (Nat.le_trans (List.length_eraseIdx_le ..) (by omega))
  exact ⟨(putTab_set (y := filled xc (xc.ents.eraseIdx (Fo.plc xc.ents xc.next s).toNat) xc.next st) hf hx hg (by show xc.kind ≠ 0; omega) h1 rfl).2, right_set hr hx h1 rfl⟩
theorem find_set {L : List Ino} {k j : Nat} {x y : Ino} {g : Int} (hr : It.right (L.set k y) = true) (hx : L[j]? = some x) (hne : k ≠ j) (hg : x.gen = g) (hk : x.kind ≠ 0) : findErr (L.set k y) j g = 0 := by
  unfold findErr
  rw [if_pos hr, if_pos ?_]
  unfold names
  rw [show ((j : Int)).toNat = j by omega, List.getElem?_set_ne hne, hx]
  simp [hg, hk]
end Sp
end Go.Proofs.YtacghcoikekfeaaGreat
