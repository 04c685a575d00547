/-
  Folders below a folder, one behind the other: what space.folders goes through. No program.
-/
import Derived.Test.YtacghcoikekfeaaGreatTab
namespace Go.Proofs.YtacghcoikekfeaaGreat
open It
set_option maxRecDepth 100000
namespace Sp
abbrev En := ByteArray × Int × Int × Int
def entsAt (L : List Ino) (no : Nat) : List En := match L[no]? with | some x => x.ents | none => []
def dirAt (L : List Ino) (no : Nat) : Bool := match L[no]? with | some x => x.kind == 2 | none => false
def way (p : ByteArray) (s : ByteArray) : ByteArray := p ++ ⟨#[47]⟩ ++ s
/-- A folder, then the folders below it. -/
def walk (L : List Ino) : Nat → Nat → ByteArray → List (Nat × ByteArray)
  | 0, _, _ => []
  | f + 1, no, path => (no, path) :: (entsAt L no).flatMap fun e => if dirAt L e.2.2.1.toNat then walk L f e.2.2.1.toNat (way path e.1) else []
def step (L : List Ino) (f : Nat) (path : ByteArray) (e : En) : List (Nat × ByteArray) := if dirAt L e.2.2.1.toNat then walk L f e.2.2.1.toNat (way path e.1) else []
theorem walk_succ (L : List Ino) (f no : Nat) (path : ByteArray) : walk L (f + 1) no path = (no, path) :: (entsAt L no).flatMap (step L f path) := rfl
/-- The folders below a folder are no deeper than f. -/
def deep (L : List Ino) : Nat → Nat → Prop
  | 0, _ => False
  | f + 1, no => no < L.length ∧ ∀ e ∈ entsAt L no, (0 ≤ e.2.2.1 ∧ e.2.2.1 < L.length ∧ e.1.size ≤ 32) ∧ (dirAt L e.2.2.1.toNat = true → deep L f e.2.2.1.toNat)
/-- What is gone through ahead of the j-th entry. -/
def upto (L : List Ino) (f no : Nat) (path : ByteArray) (j : Nat) : List (Nat × ByteArray) := (no, path) :: ((entsAt L no).take j).flatMap (step L f path)
theorem upto_zero (L : List Ino) (f no : Nat) (path : ByteArray) : upto L f no path 0 = [(no, path)] := by simp [upto]
theorem upto_succ {L : List Ino} {f no : Nat} {path : ByteArray} {j : Nat} {e : En} (h : (entsAt L no)[j]? = some e) : upto L f no path (j + 1) = upto L f no path j ++ step L f path e := by
  unfold upto
  rw [List.take_add_one, h, List.cons_append]
  simp
theorem upto_all {L : List Ino} {f no : Nat} {path : ByteArray} {j : Nat} (h : (entsAt L no).length = j) : upto L f no path j = walk L (f + 1) no path := by
  unfold upto
  rw [walk_succ, ← h, List.take_length]
theorem upto_pre (L : List Ino) (f no : Nat) (path : ByteArray) (j : Nat) : upto L f no path j <+: walk L (f + 1) no path := by
  unfold upto
  rw [walk_succ]
  refine ⟨((entsAt L no).drop j).flatMap (step L f path), ?_⟩
  rw [List.cons_append, ← List.flatMap_append, List.take_append_drop]
theorem step_dir {L : List Ino} {f : Nat} {path : ByteArray} {e : En} (h : dirAt L e.2.2.1.toNat = true) : step L f path e = walk L f e.2.2.1.toNat (way path e.1) := if_pos h
theorem step_file {L : List Ino} {f : Nat} {path : ByteArray} {e : En} (h : dirAt L e.2.2.1.toNat = false) : step L f path e = [] := by unfold step; rw [if_neg (by rw [h]; simp)]
theorem way_size (p s : ByteArray) : (way p s).size = p.size + 1 + s.size := by
  unfold way
  rw [ByteArray.size_append, ByteArray.size_append]
  rfl
end Sp
end Go.Proofs.YtacghcoikekfeaaGreat
