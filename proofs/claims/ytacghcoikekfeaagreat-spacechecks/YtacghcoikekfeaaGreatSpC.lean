/-
  Which tables are spaces: links that are counted make a tree. No program.
-/
import Derived.Test.YtacghcoikekfeaaGreatCnt0
import Derived.Test.YtacghcoikekfeaaGreatSp2
namespace Go.Proofs.YtacghcoikekfeaaGreat
open It
set_option maxRecDepth 100000
namespace Sp
/-- How many entries name a handle. -/
def cnt (L : List Ino) (h : Int × Int) : Nat := (allEnts L).countP (fun e => e.2.2 == h)
theorem eat_val : ∀ (es : List En) (M M' : List ((Int × Int) × Int)), (M.map (·.1)).Nodup → eat M es = some M' → (M'.map (·.1)).Nodup ∧ ∀ h, mval M' h = mval M h - (es.countP (fun e => e.2.2 == h) : Nat)
  | [], M, M', hn, h => by
    cases h
    exact ⟨hn, fun h => by simp⟩
  | e :: es, M, M', hn, h => by
    rw [eat_cons] at h
    split at h
    · cases h
    · obtain ⟨h1, h2⟩ := eat_val es _ M' (mset_keys hn _ _).1 h
      refine ⟨h1, fun g => ?_⟩
      rw [h2 g, mval_set hn, List.countP_cons]
      by_cases hg : g = e.2.2
      · subst hg
        simp
        omega
      · rw [if_neg hg]
        have : (e.2.2 == g) = false := beq_eq_false_iff_ne.2 (Ne.symm hg)
        simp [this]
theorem eat_some : ∀ (es : List En) (M : List ((Int × Int) × Int)), (M.map (·.1)).Nodup → (∀ h, (es.countP (fun e => e.2.2 == h) : Int) ≤ mval M h) → ∃ M', eat M es = some M'
  | [], M, _, _ => ⟨M, rfl⟩
  | e :: es, M, hn, h => by
    rw [eat_cons]
    have h0 := h e.2.2
    rw [List.countP_cons] at h0
    simp at h0
    rw [if_neg (by omega)]
    refine eat_some es _ (mset_keys hn _ _).1 fun g => ?_
    have hg := h g
    rw [List.countP_cons] at hg
    rw [mval_set hn]
    by_cases hge : g = e.2.2
    · subst hge
      simp at hg ⊢
      omega
    · rw [if_neg hge]
      have : (e.2.2 == g) = false := beq_eq_false_iff_ne.2 (Ne.symm hge)
      simp [this] at hg
      exact hg
theorem startK_small {L : List Ino} (h : It.right L = true) : ∀ k, Small (startK L k) := by
  intro k
  unfold startK
  have key : ∀ (l : List (Int × Int)) (M : List ((Int × Int) × Int)), Small M → (∀ g ∈ l, 0 ≤ lkOf L g.1 ∧ lkOf L g.1 ≤ 64) → Small (l.foldl (fun M h => mset M h (lkOf L h.1)) M) := by
    intro l
    induction l with
    | nil => intro M hM _; exact hM
    | cons g l ih =>
      intro M hM hb
      exact ih _ (hM.set g (hb g (by simp)).1 (hb g (by simp)).2) fun x hx => hb x (List.mem_cons_of_mem _ hx)
  refine key _ _ Small.nil fun g hg => ?_
  obtain ⟨i, x, hx, hno, -, -⟩ := names_iff.1 (mem_used.1 (List.mem_of_mem_take hg))
  have hone := (It.right_iff.1 h).2.2 x (List.mem_of_getElem? hx)
  unfold lkOf
  rw [hno, show ((i : Int)).toNat = i by omega, hx, Option.getD_some]
  unfold one at hone
  simp only [Bool.and_eq_true] at hone
  rcases At.right_iff.1 hone.2.1 with ⟨_, h1, _⟩ | ⟨_, _, ⟨_, h1⟩ | ⟨_, h1⟩⟩ <;> omega
theorem fold_val {f : Int → Int} : ∀ (l : List (Int × Int)) (M : List ((Int × Int) × Int)), (M.map (·.1)).Nodup → ∀ g, mval (l.foldl (fun M h => mset M h (f h.1)) M) g = if g ∈ l then f g.1 else mval M g
  | [], M, _, g => by simp
  | h :: l, M, hn, g => by
    rw [List.foldl_cons, fold_val l _ (mset_keys hn _ _).1 g, mval_set hn]
    by_cases h1 : g ∈ l
    · rw [if_pos h1, if_pos (List.mem_cons_of_mem _ h1)]
    · rw [if_neg h1]
      by_cases h2 : g = h
      · rw [if_pos h2, if_pos (by rw [h2]; simp), h2]
      · rw [if_neg h2, if_neg (fun hm => by rcases List.mem_cons.1 hm with h3 | h3; exact h2 h3; exact h1 h3)]
theorem start_nodup {L : List Ino} (h : It.right L = true) : ((start L).map (·.1)).Nodup := (mset_keys (startK_small h _).1 _ _).1
theorem start_val {L : List Ino} (h : It.right L = true) (g : Int × Int) : mval (start L) g = if g = (0, gen0 L) then 0 else if names L g.1 g.2 = true then lkOf L g.1 else 0 := by
  unfold start
  rw [mval_set (startK_small h _).1]
  by_cases h1 : g = (0, gen0 L)
  · rw [if_pos h1, if_pos h1]
  · rw [if_neg h1, if_neg h1]
    unfold startK
    rw [List.take_length, fold_val (f := lkOf L) _ _ (by simp)]
    have hm : g ∈ used L ↔ names L g.1 g.2 = true := mem_used (L := L) (no := g.1) (gen := g.2)
    by_cases h2 : names L g.1 g.2 = true
    · rw [if_pos (hm.2 h2), if_pos h2]
    · rw [if_neg (fun h3 => h2 (hm.1 h3)), if_neg h2]
      rfl
/-- Links are counted, just where each handle has as many names as it should. -/
theorem cntB_iff {L : List Ino} (h : It.right L = true) : cntB L = true ↔ ∀ g, (cnt L g : Int) = mval (start L) g := by
  have hn := start_nodup h
  constructor
  · intro hc g
    unfold cntB at hc
    cases he : eat (start L) (allEnts L) with
    | none => rw [he] at hc; cases hc
    | some M =>
      rw [he] at hc
      obtain ⟨h1, h2⟩ := eat_val _ _ M hn he
      have h3 := h2 g
      have h4 : mval M g = 0 := by
        by_cases hm : ∃ u, (g, u) ∈ M
        · obtain ⟨u, hu⟩ := hm
          rw [mval_mem h1 (p := (g, u)) hu]
          have := List.all_eq_true.1 hc _ hu
          simpa using this
        · exact mval_out (fun p hp ep => hm ⟨p.2, by rw [← ep]; exact hp⟩)
      unfold cnt
      omega
  · intro hc
    obtain ⟨M, he⟩ := eat_some (allEnts L) (start L) hn (fun g => by have := hc g; unfold cnt at this; omega)
    obtain ⟨h1, h2⟩ := eat_val _ _ M hn he
    unfold cntB
    rw [he]
    refine List.all_eq_true.2 fun p hp => ?_
    have h3 := h2 p.1
    have h4 := hc p.1
    unfold cnt at h4
    rw [mval_mem h1 hp] at h3
    simp
    omega
theorem mem_all {L : List Ino} {p : Nat} {e : En} (h : e ∈ entsAt L p) : e ∈ allEnts L := by
  unfold entsAt at h
  split at h
  · rename_i x hx
    exact List.mem_flatMap.2 ⟨x, List.mem_of_getElem? hx, h⟩
  · cases h
theorem all_mem {L : List Ino} {e : En} (h : e ∈ allEnts L) : ∃ (p : Nat) (x : Ino), L[p]? = some x ∧ e ∈ x.ents := by
  obtain ⟨x, hx, he⟩ := List.mem_flatMap.1 h
  obtain ⟨p, hp⟩ := List.mem_iff_getElem?.1 hx
  exact ⟨p, x, hp, he⟩
/-- An entry stands in a folder. -/
theorem ents_dir {L : List Ino} (h : It.right L = true) {p : Nat} {x : Ino} (hx : L[p]? = some x) {e : En} (he : e ∈ x.ents) : x.kind = 2 := by
  have hone := (It.right_iff.1 h).2.2 x (List.mem_of_getElem? hx)
  unfold one at hone
  simp only [Bool.and_eq_true] at hone
  by_cases hk : x.kind = 2
  · exact hk
  · have h2 := hone.2.2
    rw [if_neg hk] at h2
    split at h2
    · simp only [Bool.and_eq_true, List.isEmpty_iff] at h2
      rw [h2.1.1.1] at he
      cases he
    · simp only [Bool.and_eq_true, List.isEmpty_iff] at h2
      rw [h2.1.1] at he
      cases he
theorem dir_links {L : List Ino} (h : It.right L = true) {p : Nat} {x : Ino} (hx : L[p]? = some x) (hk : x.kind = 2) : x.links = 1 := by
  have hone := (It.right_iff.1 h).2.2 x (List.mem_of_getElem? hx)
  unfold one at hone
  simp only [Bool.and_eq_true] at hone
  rcases At.right_iff.1 hone.2.1 with ⟨h1, _⟩ | ⟨_, _, ⟨h1, _⟩ | ⟨_, h1⟩⟩
  · omega
  · omega
  · exact h1
/-- Each entry names an inode that is not the root. -/
theorem ent_named {L : List Ino} (h : It.right L = true) (hc : cntB L = true) {e : En} (he : e ∈ allEnts L) : names L e.2.2.1 e.2.2.2 = true ∧ e.2.2.1 ≠ 0 ∧ 1 ≤ lkOf L e.2.2.1 := by
  have h1 := (cntB_iff h).1 hc e.2.2
  have h2 : 0 < cnt L e.2.2 := List.countP_pos_iff.2 ⟨e, he, by simp⟩
  rw [start_val h] at h1
  by_cases h3 : e.2.2 = (0, gen0 L)
  · rw [if_pos h3] at h1
    omega
  · rw [if_neg h3] at h1
    by_cases h4 : names L e.2.2.1 e.2.2.2 = true
    · rw [if_pos h4] at h1
      refine ⟨h4, fun h5 => h3 ?_, by omega⟩
      obtain ⟨i, x, hx, hno, hg, _⟩ := names_iff.1 h4
      have hi : i = 0 := by omega
      subst hi
      unfold gen0
      rw [hx, Option.getD_some, hg, ← h5]
    · rw [if_neg h4] at h1
      omega
theorem tree_of {L : List Ino} (h : It.right L = true) (hf : folds L) (hc : cntB L = true) : Tree L := by
  refine ⟨fun p e he => ?_, fun c hd => ?_, ?_⟩
  · obtain ⟨h1, h2, _⟩ := ent_named h hc (mem_all he)
    obtain ⟨i, x, hx, hno, _, _⟩ := names_iff.1 h1
    have hi := (List.getElem?_eq_some_iff.1 hx).1
    refine ⟨by omega, by omega, ?_, h2⟩
    obtain ⟨q, y, hy, hey⟩ := all_mem (mem_all he)
    obtain ⟨⟨_, hpre, _⟩, _⟩ := hf y (List.mem_of_getElem? hy) (ents_dir h hy hey)
    obtain ⟨j, hj⟩ := List.mem_iff_getElem?.1 hey
    exact (hpre j (List.getElem?_eq_some_iff.1 hj).1 e hj).1.2.1
  · have hcl := dirAt_lt hd
    have hx : L[c]? = some L[c] := List.getElem?_eq_getElem hcl
    have hk : L[c].kind = 2 := by
      unfold dirAt at hd
      rw [hx] at hd
      simpa using hd
    have e1 : (allEnts L).countP (toNo c) = cnt L ((c : Int), L[c].gen) := by
      unfold cnt
      refine List.countP_congr fun e he => ?_
      obtain ⟨h1, _, _⟩ := ent_named h hc he
      obtain ⟨i, x, hxi, hno, hg, _⟩ := names_iff.1 h1
      simp only [toNo, beq_iff_eq]
      constructor
      · intro h2
        have : i = c := by omega
        subst this
        rw [hx] at hxi
        cases hxi
        exact Prod.ext h2 hg.symm
      · intro h2
        rw [h2]
    have h1 := (cntB_iff h).1 hc ((c : Int), L[c].gen)
    rw [e1]
    rw [start_val h] at h1
    have hl : lkOf L (c : Int) = 1 := by
      unfold lkOf
      rw [show ((c : Int)).toNat = c by omega, hx, Option.getD_some]
      exact dir_links h hx hk
    simp only [hl] at h1
    split at h1
    · omega
    · split at h1 <;> omega
  · have hr := (It.right_iff.1 h).2.1
    unfold rootB at hr
    cases L with
    | nil => cases hr
    | cons x l =>
      simp at hr
      simp [dirAt, hr]
theorem right_len {L : List Ino} (h : It.right L = true) : 1 ≤ L.length ∧ L.length ≤ 24 := (It.right_iff.1 h).1
theorem count_dirs (L : List Ino) : L.countP (fun x => x.kind == 2) = (dirs L).length := by
  unfold dirs
  rw [List.countP_eq_length_filter]
  have key : ∀ (l : List Ino), ((List.range l.length).filter (dirAt l)).length = (l.filter (fun x => x.kind == 2)).length := by
    intro l
    have e : (List.range l.length).map (fun i => l[i]?.getD zeroI) = l := by
      refine List.ext_getElem? fun i => ?_
      rw [List.getElem?_map]
      by_cases hi : i < l.length
      · rw [List.getElem?_range hi]
        simp [List.getElem?_eq_getElem hi]
      · rw [List.getElem?_eq_none (by simpa using hi), List.getElem?_eq_none (by omega)]
        rfl
    conv => rhs; rw [← e]
    rw [List.filter_map, List.length_map]
    congr 1
    refine List.filter_congr fun i hi => ?_
    have := List.mem_range.1 hi
    simp [dirAt, List.getElem?_eq_getElem this]
  exact (key L).symm
/-- All folders are below the root. -/
def reachB (L : List Ino) : Bool := (((walk L 24 0 ⟨#[]⟩).length : Int) - (L.countP (fun x => x.kind == 2) : Nat)) == 0
theorem reachB_iff {L : List Ino} (ht : Tree L) (hL : L.length ≤ 24) : reachB L = true ↔ ∀ c, dirAt L c = true → ∃ d, Anc L d 0 c := by
  unfold reachB
  rw [← walk_all ht hL ⟨#[]⟩, count_dirs]
  simp
  omega
/-- A table is a space. -/
noncomputable def isSp (L : List Ino) : Bool := It.right L && (foldsB L && (cntB L && reachB L))
open Classical in
theorem foldsB_iff {L : List Ino} : foldsB L = true ↔ folds L := by
  unfold foldsB
  exact decide_eq_true_iff
theorem isSp_iff {L : List Ino} : isSp L = true ↔ It.right L = true ∧ folds L ∧ cntB L = true ∧ reachB L = true := by
  unfold isSp
  simp only [Bool.and_eq_true, foldsB_iff]
theorem isSp_tree {L : List Ino} (h : isSp L = true) : Tree L := by
  obtain ⟨h1, h2, h3, _⟩ := isSp_iff.1 h
  exact tree_of h1 h2 h3
/-- Whatever a space's inode is, what is below it is no deeper than it has inodes. -/
theorem isSp_deep {L : List Ino} (h : isSp L = true) {k : Nat} (hk : k < L.length) : deep L 24 k := by
  obtain ⟨h1, h2, h3, h4⟩ := isSp_iff.1 h
  have ht := isSp_tree h
  cases hd : dirAt L k with
  | true =>
    obtain ⟨d, ha⟩ := (reachB_iff ht (right_len h1).2).1 h4 k hd
    exact deep_all ht (right_len h1).2 ha hk
  | false =>
    refine deep_bare hk ?_
    have hx : L[k]? = some L[k] := List.getElem?_eq_getElem hk
    cases he : entsAt L k with
    | nil => rfl
    | cons e r =>
      have hm : e ∈ L[k].ents := by
        unfold entsAt at he
        rw [hx] at he
        simp only at he
        rw [he]
        simp
      have := ents_dir h1 hx hm
      unfold dirAt at hd
      rw [hx] at hd
      simp [this] at hd
end Sp
end Go.Proofs.YtacghcoikekfeaaGreat
