/-
  Links that are counted: what space.counted does with its map. No program.
-/
import Derived.Test.YtacghcoikekfeaaGreatMp
import Derived.Test.YtacghcoikekfeaaGreatSpT
namespace Go.Proofs.YtacghcoikekfeaaGreat
open It
set_option maxRecDepth 100000
namespace Sp
def lkOf (L : List Ino) (no : Int) : Int := ((L[no.toNat]?).getD zeroI).links
def gen0 (L : List Ino) : Int := ((L[0]?).getD zeroI).gen
def startK (L : List Ino) (k : Nat) : List ((Int × Int) × Int) := ((used L).take k).foldl (fun M h => mset M h (lkOf L h.1)) []
def start (L : List Ino) : List ((Int × Int) × Int) := mset (startK L (used L).length) (0, gen0 L) 0
theorem startK_succ {L : List Ino} {k : Nat} {h : Int × Int} (hk : (used L)[k]? = some h) : startK L (k + 1) = mset (startK L k) h (lkOf L h.1) := by
  unfold startK
  rw [List.take_add_one, hk, Option.toList_some, List.foldl_append]
  rfl
/-- Each entry takes one away; one that has none left: no. -/
def eat (M : List ((Int × Int) × Int)) : List En → Option (List ((Int × Int) × Int))
  | [] => some M
  | e :: r => if mval M e.2.2 = 0 then none else eat (mset M e.2.2 (mval M e.2.2 - 1)) r
theorem eat_cons (M : List ((Int × Int) × Int)) (e : En) (r : List En) : eat M (e :: r) = if mval M e.2.2 = 0 then none else eat (mset M e.2.2 (mval M e.2.2 - 1)) r := rfl
theorem eat_append : ∀ (a b : List En) (M : List ((Int × Int) × Int)), eat M (a ++ b) = (eat M a).bind fun M' => eat M' b
  | [], b, M => rfl
  | e :: a, b, M => by
    rw [List.cons_append, eat_cons, eat_cons]
    by_cases h : mval M e.2.2 = 0
    · rw [if_pos h, if_pos h]
      rfl
    · rw [if_neg h, if_neg h]
      exact eat_append a b _
def cntB (L : List Ino) : Bool := match eat (start L) (allEnts L) with | some M => M.all (fun p => p.2 == 0) | none => false
/-- What has been eaten ahead of the j-th entry of the k-th inode. -/
def sofar (L : List Ino) (k j : Nat) : List En := allEnts (L.take k) ++ (entsAt L k).take j
theorem sofar_zero (L : List Ino) (k : Nat) : sofar L k 0 = allEnts (L.take k) := by simp [sofar]
theorem sofar_next {L : List Ino} {k j : Nat} {e : En} (h : (entsAt L k)[j]? = some e) : sofar L k (j + 1) = sofar L k j ++ [e] := by
  unfold sofar
  rw [List.take_add_one, h]
  simp
theorem sofar_end {L : List Ino} {k j : Nat} (hk : k < L.length) (h : (entsAt L k).length = j) : sofar L k j = allEnts (L.take (k + 1)) := by
  unfold sofar allEnts
  have e2 : entsAt L k = L[k].ents := by simp [entsAt, List.getElem?_eq_getElem hk]
  rw [← h, List.take_length, List.take_add_one, List.getElem?_eq_getElem hk, Option.toList_some, List.flatMap_append, e2]
  simp
theorem sofar_pre {L : List Ino} {k j : Nat} {e : En} (hk : k < L.length) (h : (entsAt L k)[j]? = some e) : ∃ r, allEnts L = sofar L k j ++ e :: r := by
  have h1 : allEnts L = allEnts (L.take k) ++ (entsAt L k ++ allEnts (L.drop (k + 1))) := by
    have e1 : L = L.take k ++ (L[k] :: L.drop (k + 1)) := by rw [← List.drop_eq_getElem_cons hk, List.take_append_drop]
    have e2 : entsAt L k = L[k].ents := by simp [entsAt, List.getElem?_eq_getElem hk]
    rw [e2]
    unfold allEnts
    conv => lhs; rw [e1]
    rw [List.flatMap_append, List.flatMap_cons]
  obtain ⟨hj, he⟩ := List.getElem?_eq_some_iff.1 h
  have h2 : entsAt L k = (entsAt L k).take j ++ (e :: (entsAt L k).drop (j + 1)) := by
    rw [← he, ← List.drop_eq_getElem_cons hj, List.take_append_drop]
  refine ⟨(entsAt L k).drop (j + 1) ++ allEnts (L.drop (k + 1)), ?_⟩
  rw [h1, sofar]
  conv => lhs; rw [h2]
  simp
theorem eat_no {L : List Ino} {k j : Nat} {e : En} {M : List ((Int × Int) × Int)} (hk : k < L.length) (h : (entsAt L k)[j]? = some e) (hm : eat (start L) (sofar L k j) = some M) (h0 : mval M e.2.2 = 0) : cntB L = false := by
  obtain ⟨r, hr⟩ := sofar_pre hk h
  unfold cntB
  rw [hr, eat_append, hm]
  show (match eat M (e :: r) with | some M => M.all (fun p => p.2 == 0) | none => false) = false
  unfold eat
  rw [if_pos h0]
theorem eat_yes {L : List Ino} {k j : Nat} {e : En} {M : List ((Int × Int) × Int)} (h : (entsAt L k)[j]? = some e) (hm : eat (start L) (sofar L k j) = some M) (h0 : mval M e.2.2 ≠ 0) : eat (start L) (sofar L k (j + 1)) = some (mset M e.2.2 (mval M e.2.2 - 1)) := by
  rw [sofar_next h, eat_append, hm]
  show eat M [e] = _
  unfold eat
  rw [if_neg h0]
  rfl
theorem eat_end {L : List Ino} {M : List ((Int × Int) × Int)} {n : Nat} (hn : L.length = n) (hm : eat (start L) (allEnts (L.take n)) = some M) : cntB L = M.all (fun p => p.2 == 0) := by
  rw [← hn, List.take_length] at hm
  unfold cntB
  rw [hm]
/-- The map's keys are apart, its numbers small. -/
def Small (M : List ((Int × Int) × Int)) : Prop := (M.map (·.1)).Nodup ∧ ∀ p ∈ M, 0 ≤ p.2 ∧ p.2 ≤ 64
theorem Small.nil : Small [] := ⟨by simp, fun p hp => by cases hp⟩
theorem Small.set {M : List ((Int × Int) × Int)} (h : Small M) (g : Int × Int) {v : Int} (h0 : 0 ≤ v) (h1 : v ≤ 64) : Small (mset M g v) := by
  obtain ⟨h2, h3⟩ := mset_keys h.1 g v
  refine ⟨h2, fun p hp => ?_⟩
  rcases (h3 p.1 p.2).1 hp with ⟨_, h4⟩ | ⟨_, h4⟩
  · omega
  · exact h.2 _ h4
theorem Small.val {M : List ((Int × Int) × Int)} (h : Small M) (g : Int × Int) : 0 ≤ mval M g ∧ mval M g ≤ 64 := by
  by_cases hm : ∃ u, (g, u) ∈ M
  · obtain ⟨u, hu⟩ := hm
    rw [mval_mem h.1 (p := (g, u)) hu]
    exact h.2 _ hu
  · rw [mval_out (fun p hp ep => hm ⟨p.2, by rw [← ep]; exact hp⟩)]
    omega
theorem find_val {M : List ((Int × Int) × Int)} {g : Int × Int} (h : mval M g ≠ 0) : ∃ i, mfind M g 0 = some (i, mval M g) := by
  unfold mval at h ⊢
  cases e : mfind M g 0 with
  | none => rw [e] at h; exact absurd rfl h
  | some q => exact ⟨q.1, rfl⟩
end Sp
end Go.Proofs.YtacghcoikekfeaaGreat
