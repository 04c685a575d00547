/-
  A space, as the reference says it. No program.
-/
import Derived.Test.YtacghcoikekfeaaGreatRRe
namespace Go.Proofs.YtacghcoikekfeaaGreat
open It
set_option maxRecDepth 100000
namespace Sp
/-- As many entries name an inode as should. -/
def num (L : List Ino) (i : Nat) (x : Ino) : Prop := (x.kind = 1 → (nmv L i : Int) = x.links) ∧ (x.kind = 2 → 0 < i → (nmv L i : Int) = 1) ∧ (i = 0 → (nmv L i : Int) = 0)
def okAt (L : List Ino) (i : Nat) (x : Ino) : Prop := fold x ∧ (x.kind = 2 → ∀ e ∈ x.ents, names L e.2.2.1 e.2.2.2 = true) ∧ num L i x
def okAll (L : List Ino) : Prop := ∀ i x, L[i]? = some x → okAt L i x
/-- Where each entry names an inode, its number says which. -/
theorem nmv_cnt {L : List Ino} (hn : ∀ e ∈ allEnts L, names L e.2.2.1 e.2.2.2 = true) {i : Nat} {x : Ino} (hx : L[i]? = some x) : nmv L i = cnt L ((i : Int), x.gen) := by
  unfold nmv cnt
  refine List.countP_congr fun e he => ?_
  obtain ⟨j, y, hy, hno, hg, _⟩ := names_iff.1 (hn e he)
  simp only [toI, beq_iff_eq]
  constructor
  · intro h2
    have : j = i := by omega
    subst this
    rw [hx] at hy
    cases hy
    exact Prod.ext h2 hg.symm
  · intro h2
    rw [h2]
theorem root_kind {L : List Ino} (h : It.right L = true) {x : Ino} (hx : L[0]? = some x) : x.kind = 2 := by
  have hr := (It.right_iff.1 h).2.1
  unfold rootB at hr
  cases L with
  | nil => cases hr
  | cons y l =>
    simp at hx
    subst hx
    simp at hr
    exact hr
theorem isSp_ok {L : List Ino} (h : isSp L = true) : okAll L := by
  obtain ⟨h1, h2, h3, _⟩ := isSp_iff.1 h
  have hn : ∀ e ∈ allEnts L, names L e.2.2.1 e.2.2.2 = true := fun e he => (ent_named h1 h3 he).1
  intro i x hx
  have hv := (cntB_iff h1).1 h3 ((i : Int), x.gen)
  rw [← nmv_cnt hn hx, start_val h1] at hv
  have hl : lkOf L (i : Int) = x.links := by
    unfold lkOf
    rw [show ((i : Int)).toNat = i by omega, hx, Option.getD_some]
  have hg0 : i = 0 → x.gen = gen0 L := fun h0 => by
    subst h0
    unfold gen0
    rw [hx, Option.getD_some]
  refine ⟨h2 x (List.mem_of_getElem? hx), fun hk e he => hn e (List.mem_flatMap.2 ⟨x, List.mem_of_getElem? hx, he⟩), fun hk => ?_, fun hk h0 => ?_, fun h0 => ?_⟩
  · rw [if_neg (fun he => by
      have : (i : Int) = 0 := congrArg Prod.fst he
      have hi : i = 0 := by omega
      subst hi
      have := root_kind h1 hx
      omega), if_pos (names_iff.2 ⟨i, x, hx, rfl, rfl, by omega⟩), hl] at hv
    exact hv
  · rw [if_neg (fun he => by
      have : (i : Int) = 0 := congrArg Prod.fst he
      omega), if_pos (names_iff.2 ⟨i, x, hx, rfl, rfl, by omega⟩), hl, dir_links h1 hx hk] at hv
    exact hv
  · rw [if_pos (by rw [hg0 h0, h0]; rfl)] at hv
    exact hv
theorem ok_named {L : List Ino} (h : It.right L = true) (ho : okAll L) : ∀ e ∈ allEnts L, names L e.2.2.1 e.2.2.2 = true := fun e he => by
  obtain ⟨p, x, hx, hex⟩ := all_mem he
  exact (ho p x hx).2.1 (ents_dir h hx hex) e hex
theorem ok_folds {L : List Ino} (ho : okAll L) : folds L := fun x hx => by
  obtain ⟨p, hp⟩ := List.mem_iff_getElem?.1 hx
  exact (ho p x hp).1
theorem ok_cntB {L : List Ino} (h : It.right L = true) (ho : okAll L) : cntB L = true := by
  have hn := ok_named h ho
  refine (cntB_iff h).2 fun g => ?_
  rw [start_val h]
  have hlen := right_len h
  have h0x : L[0]? = some L[0] := List.getElem?_eq_getElem (by omega)
  by_cases h0 : g = (0, gen0 L)
  · rw [if_pos h0]
    have h1 := (ho 0 _ h0x).2.2.2.2 rfl
    rw [nmv_cnt hn h0x] at h1
    have e : gen0 L = L[0].gen := by unfold gen0; rw [h0x, Option.getD_some]
    rw [h0, e]
    exact h1
  · rw [if_neg h0]
    by_cases h1 : names L g.1 g.2 = true
    · rw [if_pos h1]
      obtain ⟨i, x, hx, hno, hg, hk⟩ := names_iff.1 h1
      have eg : g = ((i : Int), x.gen) := Prod.ext hno hg.symm
      have hl : lkOf L g.1 = x.links := by
        unfold lkOf
        rw [hno, show ((i : Int)).toNat = i by omega, hx, Option.getD_some]
      rw [hl, eg, ← nmv_cnt hn hx]
      have hnum := (ho i x hx).2.2
      have hone := (It.right_iff.1 h).2.2 x (List.mem_of_getElem? hx)
      unfold one at hone
      simp only [Bool.and_eq_true] at hone
      by_cases hk2 : x.kind = 2
      · rw [dir_links h hx hk2]
        refine hnum.2.1 hk2 ?_
        by_cases hi : i = 0
        · exfalso
          subst hi
          refine h0 (eg.trans ?_)
          unfold gen0
          rw [hx, Option.getD_some]
          rfl
        · omega
      · refine hnum.1 ?_
        rcases At.right_iff.1 hone.2.1 with ⟨h3, _⟩ | ⟨_, _, ⟨h3, _⟩ | ⟨h3, _⟩⟩
        · exact (hk h3).elim
        · exact h3
        · exact (hk2 h3).elim
    · rw [if_neg h1]
      have : cnt L g = 0 := List.countP_eq_zero.2 fun e he hc => h1 (by
        have e2 : e.2.2 = g := by simpa using hc
        rw [← e2]
        exact hn e he)
      rw [this]
      rfl
theorem rch_anc {L : List Ino} (h : It.right L = true) {a : Nat} : ∀ (d c : Nat), Rch L d a c → dirAt L c = true → Anc L d a c
  | 0, c, hr, _ => hr
  | d + 1, c, hr, hd => by
    obtain ⟨p, hp, hpl, e, he, hec⟩ := hr
    have hx : L[p]? = some L[p] := List.getElem?_eq_getElem hpl
    have hem : e ∈ L[p].ents := by
      unfold entsAt at he
      rw [hx] at he
      exact he
    have hdp : dirAt L p = true := by
      unfold dirAt
      rw [hx]
      simp [ents_dir h hx hem]
    exact ⟨p, rch_anc h d p hp hdp, ⟨e, he, by simp [toNo, hec]⟩, hd⟩
theorem ents_lt {L : List Ino} {p : Nat} {e : En} (he : e ∈ entsAt L p) : p < L.length := by
  unfold entsAt at he
  split at he
  · rename_i x hx
    exact (List.getElem?_eq_some_iff.1 hx).1
  · cases he
theorem anc_rch {L : List Ino} {a : Nat} : ∀ (d c : Nat), Anc L d a c → Rch L d a c
  | 0, c, h => h
  | d + 1, c, h => by
    obtain ⟨p, hp, ⟨e, he, hc⟩, _⟩ := h
    exact ⟨p, anc_rch d p hp, ents_lt he, e, he, by simpa [toNo] using hc⟩
/-- All folders that are reached are below, and the other way round. -/
theorem full_reach {L : List Ino} (h : It.right L = true) (ht : Tree L) {f : Nat → Bool} (hs : Sound L 0 f) (hf : Full L 0 L.length f) : reachB L = true ↔ ∀ c, dirAt L c = true → f c = true := by
  rw [reachB_iff ht (right_len h).2]
  constructor
  · intro hr c hd
    obtain ⟨d, ha⟩ := hr c hd
    exact hf d (Nat.le_of_lt (anc_lt ht ha)) c (dirAt_lt hd) (anc_rch d c ha)
  · intro hr c hd
    obtain ⟨d, ha⟩ := hs c (dirAt_lt hd) (hr c hd)
    exact ⟨d, rch_anc h d c ha hd⟩
theorem isSp_of {L : List Ino} (h : It.right L = true) (ho : okAll L) {f : Nat → Bool} (hs : Sound L 0 f) (hf : Full L 0 L.length f) : isSp L = true ↔ ∀ c, dirAt L c = true → f c = true := by
  rw [isSp_iff, ← full_reach h (tree_of h (ok_folds ho) (ok_cntB h ho)) hs hf]
  exact ⟨fun h => h.2.2.2, fun hr => ⟨h, ok_folds ho, ok_cntB h ho, hr⟩⟩
theorem isSp_not {L : List Ino} (h : ¬ okAll L) : isSp L = false := by
  cases hs : isSp L with
  | false => rfl
  | true => exact (h (isSp_ok hs)).elim
end Sp
end Go.Proofs.YtacghcoikekfeaaGreat
