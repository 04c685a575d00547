/-
  A folder and a file in it: what stands in the tables, and what is told of them. No program.
-/
import Derived.Test.YtacghcoikekfeaaGreatLw0
namespace Go.Proofs.YtacghcoikekfeaaGreat
open It
set_option maxRecDepth 100000
namespace Sp
abbrev nA : ByteArray := ⟨#[97]⟩
abbrev nB : ByteArray := ⟨#[98]⟩
abbrev nC : ByteArray := ⟨#[99]⟩
def T1 : List Ino := [⟨1, 2, 1, 1, 1, [], [(nA, 1, 1, 1)], 1⟩, ⟨1, 2, 1, 0, 1, [], [], 0⟩]
def T2 : List Ino := [⟨1, 2, 1, 1, 1, [], [(nA, 1, 1, 1)], 1⟩, ⟨1, 2, 1, 1, 2, [], [(nB, 1, 2, 1)], 1⟩, ⟨1, 1, 1, 0, 2, [], [], 0⟩]
theorem ok_one {c : UInt8} (h : c ≠ 46 ∧ c ≠ 47 ∧ c ≠ 0) : Nm.ok ⟨#[c]⟩ := by
  refine ⟨by simp [ByteArray.size], by simp [ByteArray.size], fun e => ?_, fun e => ?_, ?_⟩
  · have : #[c] = #[46] := congrArg ByteArray.data e
    simp at this
    exact h.1 this
  · have : #[c] = #[46, 46] := congrArg ByteArray.data e
    simp at this
  · intro i hi _
    have h0 : i = 0 := by
      have : i < 1 := hi
      omega
    subst h0
    show c.toNat ≠ 47 ∧ c.toNat ≠ 0
    exact ⟨fun e => h.2.1 (UInt8.toNat_inj.1 e), fun e => h.2.2 (UInt8.toNat_inj.1 e)⟩
theorem right_none : Fo.Right [] 0 := ⟨by omega, fun i hi => by simp at hi, by simp [Fo.apart]⟩
theorem right_single {s : ByteArray} {no : Int} (hs : Nm.ok s) (hn : 0 ≤ no ∧ no ≤ 23) : Fo.Right [(s, 1, no, 1)] 1 := by
  refine ⟨by omega, fun i hi => ?_, by simp [Fo.apart]⟩
  have : i = 0 := by simp at hi; exact hi
  subst this
  intro x hx
  simp at hx
  subst hx
  exact ⟨hs, by simp [Fo.lastC], hn, by show (1 : Int) ≤ 1; decide, by show (1 : Int) ≤ 1099511627776; decide⟩
theorem folds_new : folds new := fun x hx => by
  simp [new, fresh] at hx
  subst hx
  exact fun _ => ⟨right_none, rfl⟩
theorem folds_T1 : folds T1 := fun x hx => by
  simp [T1] at hx
  rcases hx with rfl | rfl
  · exact fun _ => ⟨right_single (ok_one (by decide)) (by decide), rfl⟩
  · exact fun _ => ⟨right_none, rfl⟩
theorem folds_T2 : folds T2 := fun x hx => by
  simp [T2] at hx
  rcases hx with rfl | rfl | rfl
  · exact fun _ => ⟨right_single (ok_one (by decide)) (by decide), rfl⟩
  · exact fun _ => ⟨right_single (ok_one (by decide)) (by decide), rfl⟩
  · intro h
    cases h
theorem isSp_new : isSp new = true := isSp_iff.2 ⟨by decide, folds_new, by decide, by decide⟩
theorem isSp_T1 : isSp T1 = true := isSp_iff.2 ⟨by decide, folds_T1, by decide, by decide⟩
theorem isSp_T2 : isSp T2 = true := isSp_iff.2 ⟨by decide, folds_T2, by decide, by decide⟩
noncomputable abbrev CC : List Ino → Int := chk isSp
theorem st_ok {L : List Ino} {st : Int} (h : isSp L = true) (ht : top L ≤ st ∧ st ≤ 1099511627776) : stErr CC L st = 0 := by
  unfold stErr CC chk
  rw [if_pos h, if_pos rfl, if_pos ht]
theorem name_free {L : List Ino} {a b nx : Int} {s : ByteArray} {es : List Ent} (hd : dirErr L a b = 0) (he : dirEnts L a b = es) (hn : dirNext L a b = nx) (hr : Fo.Right es nx) (hs : Nm.ok s) (ha : Fo.at' (Fo.called s) es = -1) : nameErr L a b s = 0 ∧ ∀ no gen, Ho no gen → nx ≠ 1099511627776 → Fo.addErr es nx s no gen = 0 := by
  have hk : Fo.ask es nx s = 0 := by rw [Fo.ask_right (Fo.err_ok hr), Nm.err_ok hs]
  have hf := (Fo.findErr_miss hk ha).1
  have hl : lookErr L a b s = 402 := by unfold lookErr; rw [if_pos hd, he, hn, hf]
  refine ⟨by unfold nameErr; rw [hl]; rfl, fun no gen ho hm => Fo.add_ok hk ho ha hm⟩
theorem name_hit {L : List Ino} {a b nx : Int} {s : ByteArray} {es : List Ent} {k : Nat} {x : Ent} (hd : dirErr L a b = 0) (he : dirEnts L a b = es) (hn : dirNext L a b = nx) (hr : Fo.Right es nx) (hs : Nm.ok s) (ha : Fo.at' (Fo.called s) es = k) (hx : es[k]? = some x) : lookErr L a b s = 0 ∧ lookH L a b s = x.2.2 := by
  have hk : Fo.ask es nx s = 0 := by rw [Fo.ask_right (Fo.err_ok hr), Nm.err_ok hs]
  have hf : Fo.findErr es nx s = 0 := by unfold Fo.findErr; rw [if_pos hk, if_neg (by rw [ha]; omega)]
  have hp : Fo.plc es nx s = k := by unfold Fo.plc; rw [if_pos hf, ha]
  refine ⟨by unfold lookErr; rw [if_pos hd, he, hn, hf], ?_⟩
  unfold lookH
  rw [if_pos hd, he, hn, Fo.found_hit hf hp hx]
theorem at_one {s t : ByteArray} {c no g : Int} (h : s = t) : Fo.at' (Fo.called s) [(t, c, no, g)] = (0 : Nat) := Fo.at_hit (x := (t, c, no, g)) rfl (by subst h; simp [Fo.called]) (fun j y hj => by omega)
theorem at_none {s t : ByteArray} {c no g : Int} (h : s.data.toList ≠ t.data.toList) : Fo.at' (Fo.called s) [(t, c, no, g)] = -1 := by
  have hc : Fo.called s (t, c, no, g) = false := by
    unfold Fo.called
    rw [toL, toL]
    exact beq_eq_false_iff_ne.2 (Ne.symm h)
  unfold Fo.at'
  simp [List.findIdx?_cons, hc]
theorem okA : Nm.ok nA := ok_one (by decide)
theorem okB : Nm.ok nB := ok_one (by decide)
theorem okC : Nm.ok nC := ok_one (by decide)
theorem mk1 : mkE CC new 0 1 nA 2 1 = 0 ∧ mkT CC new 0 1 nA 2 1 = T1 ∧ mkH CC new 0 1 nA 2 1 = (1, 1) := by
  obtain ⟨h1, h2⟩ := name_free (L := new) (a := 0) (b := 1) (s := nA) (es := []) (nx := 0) (by decide) (by decide) (by decide) right_none okA (by decide)
  have h3 : makeErr CC new 0 1 nA 2 1 = 0 := by unfold makeErr; rw [if_pos (st_ok isSp_new (by decide)), if_pos (by decide), h1]
  have h4 : It.makeErr new 2 1 = 0 := by decide
  have h5 : makeH new 2 1 = (1, 1) := by decide
  have hE : mkE CC new 0 1 nA 2 1 = 0 := by
    unfold mkE
    rw [if_pos h3, if_pos h4, h5, show dirEnts new 0 1 = [] from by decide, show dirNext new 0 1 = 0 from by decide]
    exact h2 1 1 (by decide) (by decide)
  refine ⟨hE, ?_, by unfold mkH; rw [if_pos hE, h5]⟩
  unfold mkT
  rw [if_pos hE, h5]
  rfl
theorem mk2 : mkE CC T1 1 1 nB 1 2 = 0 ∧ mkT CC T1 1 1 nB 1 2 = T2 := by
  obtain ⟨h1, h2⟩ := name_free (L := T1) (a := 1) (b := 1) (s := nB) (es := []) (nx := 0) (by decide) (by decide) (by decide) right_none okB (by decide)
  have h3 : makeErr CC T1 1 1 nB 1 2 = 0 := by unfold makeErr; rw [if_pos (st_ok isSp_T1 (by decide)), if_pos (by decide), h1]
  have h4 : It.makeErr T1 1 2 = 0 := by decide
  have h5 : makeH T1 1 2 = (2, 1) := by decide
  have hE : mkE CC T1 1 1 nB 1 2 = 0 := by
    unfold mkE
    rw [if_pos h3, if_pos h4, h5, show dirEnts T1 1 1 = [] from by decide, show dirNext T1 1 1 = 0 from by decide]
    exact h2 2 1 (by decide) (by decide)
  refine ⟨hE, ?_⟩
  unfold mkT
  rw [if_pos hE, h5]
  rfl
theorem to_T2 : toErr CC T2 3 0 1 nA = 0 ∧ toH CC T2 3 0 1 nA = (1, 1) := by
  obtain ⟨h1, h2⟩ := name_hit (L := T2) (a := 0) (b := 1) (s := nA) (es := [(nA, 1, 1, 1)]) (nx := 1) (k := 0) (x := (nA, 1, 1, 1)) (by decide) (by rfl) (by decide) (right_single okA (by decide)) okA (at_one rfl) rfl
  have hs := st_ok (st := 3) isSp_T2 (by decide)
  exact ⟨by unfold toErr; rw [if_pos hs, h1], by unfold toH; rw [if_pos hs, h2]⟩
theorem rn2 : rnE CC insB T2 0 1 nA 1 1 nC 3 = 410 := by
  obtain ⟨h1, h2⟩ := to_T2
  obtain ⟨h3, -⟩ := name_free (L := T2) (a := 1) (b := 1) (s := nC) (es := [(nB, 1, 2, 1)]) (nx := 1) (by decide) (by rfl) (by decide) (right_single okB (by decide)) okC (at_none (by decide))
  have h4 : moveErr insB T2 1 1 1 nC = 410 := by
    unfold moveErr
    rw [if_pos ⟨.inl h3, by decide⟩]
  unfold rnE
  rw [if_pos h1, h2, h4]
  rfl
theorem rm2 : rmE CC T2 0 1 nA 3 = 406 := by
  obtain ⟨h1, h2⟩ := to_T2
  unfold rmE
  rw [if_pos h1, h2]
  rfl
theorem pt2 : pathsC T2 = [⟨#[47]⟩, ⟨#[47, 97]⟩, ⟨#[47, 97, 47, 98]⟩] := by
  rw [paths_same]
  unfold pathsR
  rw [if_pos isSp_T2]
  have w1 : way ⟨#[]⟩ nA = ⟨#[47, 97]⟩ := by decide
  have w2 : way ⟨#[47, 97]⟩ nB = ⟨#[47, 97, 47, 98]⟩ := by decide
  have l1 : ltT ⟨#[47, 97, 47, 98]⟩ ⟨#[47, 97]⟩ = false := by
    unfold ltT
    rw [toL, toL]
    decide
  have b2 : below T2 23 1 ⟨#[47, 97]⟩ [⟨#[47, 97]⟩] = [⟨#[47, 97]⟩, ⟨#[47, 97, 47, 98]⟩] := by
    rw [below_succ, show entsAt T2 1 = [(nB, 1, 2, 1)] from rfl, List.foldl_cons, List.foldl_nil]
    unfold belowE
    rw [if_neg (by decide), w2]
    unfold insT
    rw [l1, if_neg (by decide)]
    rfl
  rw [below_succ, show entsAt T2 0 = [(nA, 1, 1, 1)] from rfl, List.foldl_cons, List.foldl_nil]
  unfold belowE
  rw [if_pos (by decide), w1]
  show _ :: below T2 23 1 _ _ = _
  rw [show insT ⟨#[47, 97]⟩ [] = [⟨#[47, 97]⟩] from rfl, b2]
end Sp
end Go.Proofs.YtacghcoikekfeaaGreat
