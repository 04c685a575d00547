/-
  Plain mathematics of tables in which inodes are made and dropped: a handle of what is gone names nothing ever again. No program.
-/
import Derived.Test.YtacghcoikekfeaaGreatTab
namespace Go.Proofs.YtacghcoikekfeaaGreat
set_option maxRecDepth 100000
namespace It

theorem rootB_get {L : List Ino} (h : rootB L = true) : ∃ x, L[0]? = some x ∧ x.kind = 2 := by
  cases L with
  | nil => cases h
  | cons y l => exact ⟨y, rfl, of_decide_eq_true h⟩
theorem rootB_of {L : List Ino} {x : Ino} (h : L[0]? = some x) (hk : x.kind = 2) : rootB L = true := by
  cases L with
  | nil => simp at h
  | cons y l =>
    simp at h
    subst h
    exact decide_eq_true hk
theorem one_fresh {g k s : Int} (hg : 1 ≤ g ∧ g ≤ 1099511627776) (hk : k = 1 ∨ k = 2) (hs : 0 ≤ s ∧ s ≤ 1099511627776) : one (fresh g k s) = true := by
  have hr : Bl.right (-1) [] := trivial
  have he : Bl.endOf [] = 0 := by unfold Bl.endOf; rw [if_pos hr]; rfl
  rcases hk with rfl | rfl
  · rw [fresh, one_file hg (At.right_iff.2 (.inr ⟨⟨by omega, by omega⟩, hs, .inl ⟨rfl, by omega, by omega⟩⟩)), he]
    simp [hr]
  · rw [fresh, one_dir hg (At.right_iff.2 (.inr ⟨⟨by omega, by omega⟩, hs, .inr ⟨rfl, rfl⟩⟩))]
    rfl
theorem one_gone {g : Int} (hg : 1 ≤ g ∧ g ≤ 1099511627776) : one (gone g) = true := by
  rw [gone, one_free hg (At.right_iff.2 (.inl ⟨rfl, rfl, rfl, rfl⟩))]
  rfl
theorem put_at {L : List Ino} {no : Nat} {x : Ino} (h : no ≤ L.length) (j : Nat) : (put L no x)[j]? = if j = no then some x else L[j]? := by
  unfold put
  split
  · rename_i hlt
    rw [List.getElem?_set]
    by_cases hj : no = j
    · subst hj
      simp [hlt]
    · rw [if_neg hj, if_neg (fun e => hj e.symm)]
  · have : no = L.length := by omega
    subst this
    by_cases hj : j = L.length
    · subst hj
      simp
    · rw [if_neg hj]
      rcases Nat.lt_or_gt_of_ne hj with h1 | h1
      · rw [List.getElem?_append_left h1]
      · rw [List.getElem?_eq_none (by simp; omega), List.getElem?_eq_none (by omega)]
theorem right_put {L : List Ino} {no : Nat} {x : Ino} (hr : right L = true) (h : no ≤ L.length) (h24 : no < 24) (h1 : 1 ≤ no) (hx : one x = true) : right (put L no x) = true := by
  obtain ⟨hl, hroot, hall⟩ := right_iff.1 hr
  obtain ⟨y, hy, hyk⟩ := rootB_get hroot
  refine right_iff.2 ⟨?_, ?_, fun z hz => ?_⟩
  · rw [put_length]
    split <;> omega
  · refine rootB_of (x := y) ?_ hyk
    rw [put_at h, if_neg (by omega)]
    exact hy
  · obtain ⟨j, hj⟩ := List.mem_iff_getElem?.1 hz
    rw [put_at h] at hj
    split at hj
    · cases hj
      exact hx
    · exact hall z (List.mem_of_getElem? hj)
theorem names_at {L M : List Ino} {k : Nat} {gen : Int} (h : M[k]? = L[k]?) : names M k gen = names L k gen := by
  unfold names
  rw [show ((k : Int)).toNat = k from by omega, h]
theorem names_some {L : List Ino} {k : Nat} {gen : Int} {x : Ino} (h : L[k]? = some x) : names L k gen = decide (x.gen = gen ∧ x.kind ≠ 0) := by
  unfold names
  rw [show ((k : Int)).toNat = k from by omega, h, decide_eq_true (show (0 : Int) ≤ (k : Int) by omega)]
  rfl
theorem names_none {L : List Ino} {k : Nat} {gen : Int} (h : L[k]? = none) : names L k gen = false := by
  unfold names
  rw [show ((k : Int)).toNat = k from by omega, h]
  simp
/-- Handles, each of an inode that was made. -/
structure Inv (T : List Ino) (hs : List (Int × Int)) : Prop where
  right : right T = true
  nodup : hs.Nodup
  each : ∀ h ∈ hs, ∃ (k : Nat) (x : Ino), h.1 = (k : Int) ∧ 1 ≤ k ∧ T[k]? = some x ∧ h.2 ≤ x.gen
def gones (T : List Ino) (hs : List (Int × Int)) : List Bool := hs.map fun h => !names T h.1 h.2
theorem gones_length (T : List Ino) (hs : List (Int × Int)) : (gones T hs).length = hs.length := by simp [gones]
theorem gones_at {T : List Ino} {hs : List (Int × Int)} {i : Nat} {h : Int × Int} (hh : hs[i]? = some h) : (gones T hs)[i]? = some (!names T h.1 h.2) := by simp [gones, hh]
theorem right_new : right new = true := by decide
theorem inv_new : Inv new [] := ⟨right_new, List.nodup_nil, fun h hh => by cases hh⟩
theorem make_err {T : List Ino} (h : right T = true) {kind : Int} (hk : kind = 1 ∨ kind = 2) : makeErr T kind 0 = 0 ∨ makeErr T kind 0 = 407 := by
  have ha : argOk kind 0 = true := by unfold argOk; rw [decide_eq_true hk, decide_eq_true (by omega)]; rfl
  unfold makeErr
  rw [if_pos h, if_pos ha]
  split
  · exact .inr rfl
  · exact .inl rfl
theorem make_next {T : List Ino} {kind stamp : Int} (he : makeErr T kind stamp = 0) : right T = true ∧ argOk kind stamp = true ∧ (next T).1 ≠ 24 ∧ makeTab T kind stamp = put T (next T).1.toNat (fresh (next T).2 kind stamp) ∧ makeH T kind stamp = next T := by
  have h1 : makeTab T kind stamp = put T (next T).1.toNat (fresh (next T).2 kind stamp) := by unfold makeTab; rw [if_pos he]
  have h2 : makeH T kind stamp = next T := by unfold makeH; rw [if_pos he]
  unfold makeErr at he
  split at he
  · rename_i hr
    split at he
    · rename_i ha
      split at he
      · cases he
      · rename_i hn
        exact ⟨hr, ha, hn, h1, h2⟩
    · cases he
  · cases he
theorem right_len24 {T : List Ino} (h : right T = true) : 1 ≤ T.length ∧ T.length ≤ 24 := (right_iff.1 h).1
theorem next_good {T : List Ino} (h : right T = true) : 1 ≤ (next T).1 ∧ (1 ≤ (next T).2 ∧ (next T).2 ≤ 1099511627776) := by
  obtain ⟨hl, hroot, hall⟩ := right_iff.1 h
  obtain ⟨y, hy, hyk⟩ := rootB_get hroot
  rcases next_cases T with ⟨j, x, hx, hk, hg, e⟩ | e
  · have hb := one_bd (hall x (List.mem_of_getElem? hx))
    rw [e]
    refine ⟨?_, by show 1 ≤ x.gen + 1; omega, by show x.gen + 1 ≤ _; omega⟩
    have : j ≠ 0 := by
      rintro rfl
      rw [hy] at hx
      cases hx
      omega
    show 1 ≤ (j : Int)
    omega
  · rw [e]
    exact ⟨by show 1 ≤ (T.length : Int); omega, by show (1 : Int) ≤ 1; decide, by show (1 : Int) ≤ 1099511627776; decide⟩
theorem inv_make {T : List Ino} {hs : List (Int × Int)} (h : Inv T hs) {kind stamp : Int} (he : makeErr T kind stamp = 0) :
    Inv (makeTab T kind stamp) (hs ++ [makeH T kind stamp]) ∧ gones (makeTab T kind stamp) (hs ++ [makeH T kind stamp]) = gones T hs ++ [false] := by
  obtain ⟨hr, ha, hn, e1, e2⟩ := make_next he
  have hk : kind = 1 ∨ kind = 2 := by unfold argOk at ha; simp only [Bool.and_eq_true, decide_eq_true_eq] at ha; exact ha.1
  have hs0 : 0 ≤ stamp ∧ stamp ≤ 1099511627776 := by unfold argOk at ha; simp only [Bool.and_eq_true, decide_eq_true_eq] at ha; exact ha.2
  obtain ⟨hn1, hng⟩ := next_good hr
  obtain ⟨hb0, hb1⟩ := next_bd T
  have hlen := right_len24 hr
  rw [e1, e2]
  -- what holds of the handle that is made
  have key : ∀ g ∈ hs, g ≠ next T ∧ names (put T (next T).1.toNat (fresh (next T).2 kind stamp)) g.1 g.2 = names T g.1 g.2 ∧ ∃ (k : Nat) (x : Ino), g.1 = (k : Int) ∧ 1 ≤ k ∧ (put T (next T).1.toNat (fresh (next T).2 kind stamp))[k]? = some x ∧ g.2 ≤ x.gen := by
    intro g hg
    obtain ⟨k, x, hgk, hk1, hx, hgx⟩ := h.each g hg
    have hput := put_at (x := fresh (next T).2 kind stamp) (show (next T).1.toNat ≤ T.length by omega) k
    by_cases hkn : k = (next T).1.toNat
    · rw [if_pos hkn] at hput
      rcases next_cases T with ⟨j, y, hy, hyk, hyg, e⟩ | e
      · have hj : k = j := by rw [e] at hkn; simpa using hkn
        subst hj
        rw [hx] at hy
        cases hy
        have hg2 : (next T).2 = x.gen + 1 := by rw [e]
        refine ⟨fun e' => ?_, ?_, k, _, hgk, hk1, hput, by show g.2 ≤ (next T).2; omega⟩
        · rw [e'] at hgx
          omega
        · rw [hgk, names_some hput, names_some hx, decide_eq_false (by show ¬ ((next T).2 = g.2 ∧ kind ≠ 0); omega), decide_eq_false (by simp [hyk])]
      · have hkl : k < T.length := (List.getElem?_eq_some_iff.1 hx).1
        rw [e] at hkn
        simp at hkn
        omega
    · rw [if_neg hkn] at hput
      refine ⟨fun e' => ?_, by rw [hgk]; exact names_at hput, k, x, hgk, hk1, by rw [hput]; exact hx, hgx⟩
      rw [← e', hgk] at hkn
      simp at hkn
  have hnew := put_at (x := fresh (next T).2 kind stamp) (show (next T).1.toNat ≤ T.length by omega) (next T).1.toNat
  rw [if_pos rfl] at hnew
  have hcast : (((next T).1.toNat : Nat) : Int) = (next T).1 := by omega
  refine ⟨⟨?_, ?_, fun g hg => ?_⟩, ?_⟩
  · exact right_put hr (by omega) (by omega) (by omega) (one_fresh hng hk hs0)
  · rw [List.nodup_append]
    refine ⟨h.nodup, by simp, fun a ha b hb => ?_⟩
    simp at hb
    subst hb
    exact (key a ha).1
  · rcases List.mem_append.1 hg with hg | hg
    · exact (key g hg).2.2
    · simp at hg
      subst hg
      exact ⟨_, _, hcast.symm, by omega, hnew, Int.le_refl _⟩
  · unfold gones
    rw [List.map_append]
    congr 1
    · exact List.map_congr_left fun g hg => by rw [(key g hg).2.1]
    · have : names (put T (next T).1.toNat (fresh (next T).2 kind stamp)) (next T).1 (next T).2 = true := by
        have h1 := names_some (gen := (next T).2) hnew
        rw [hcast] at h1
        rw [h1]
        apply decide_eq_true
        refine ⟨rfl, ?_⟩
        show kind ≠ 0
        omega
      simp [this]
theorem find_err {T : List Ino} (h : right T = true) (a b : Int) : findErr T a b = if names T a b then 0 else 401 := by unfold findErr; rw [if_pos h]
theorem drop_stale {T : List Ino} (h : right T = true) {a b : Int} (hn : names T a b = false) : dropErr T a b = 401 := by
  have : findErr T a b = 401 := by rw [find_err h, hn]; rfl
  unfold dropErr
  rw [this]
  rfl
theorem inv_drop {T : List Ino} {hs : List (Int × Int)} (h : Inv T hs) {p : Nat} {hd : Int × Int} (hp : hs[p]? = some hd) (hn : names T hd.1 hd.2 = true) :
    dropErr T hd.1 hd.2 = 0 ∧ Inv (dropTab T hd.1 hd.2) hs ∧ gones (dropTab T hd.1 hd.2) hs = (gones T hs).set p true := by
  obtain ⟨k, x, hgk, hk1, hx, hgx⟩ := h.each hd (List.mem_of_getElem? hp)
  have hf : findErr T hd.1 hd.2 = 0 := by rw [find_err h.right, if_pos hn]
  have hde : dropErr T hd.1 hd.2 = 0 := by unfold dropErr; rw [if_pos hf, if_neg (by omega)]
  have hkl : k < T.length := (List.getElem?_eq_some_iff.1 hx).1
  have hlen := right_len24 h.right
  have hxn : x.gen = hd.2 ∧ x.kind ≠ 0 := by
    rw [hgk, names_some hx] at hn
    exact of_decide_eq_true hn
  have hdt : dropTab T hd.1 hd.2 = put T k (gone hd.2) := by
    unfold dropTab
    rw [if_pos hde, hgk]
    rfl
  have hput := put_at (x := gone hd.2) (show k ≤ T.length by omega)
  have hall := (right_iff.1 h.right).2.2
  have hbd := one_bd (hall x (List.mem_of_getElem? hx))
  have key : ∀ g ∈ hs, (names (put T k (gone hd.2)) g.1 g.2 = if g = hd then false else names T g.1 g.2) ∧ ∃ (j : Nat) (y : Ino), g.1 = (j : Int) ∧ 1 ≤ j ∧ (put T k (gone hd.2))[j]? = some y ∧ g.2 ≤ y.gen := by
    intro g hg
    obtain ⟨j, y, hgj, hj1, hy, hgy⟩ := h.each g hg
    have hpj := hput j
    by_cases hjk : j = k
    · subst hjk
      rw [if_pos rfl] at hpj
      rw [hx] at hy
      cases hy
      refine ⟨?_, j, _, hgj, hj1, hpj, by show g.2 ≤ hd.2; omega⟩
      rw [hgj, names_some hpj, decide_eq_false (by rintro ⟨_, h0⟩; exact h0 rfl)]
      split
      · rfl
      · rename_i hne
        rw [names_some hx, decide_eq_false]
        rintro ⟨h0, _⟩
        exact hne (Prod.ext (by rw [hgj, hgk]) (by omega))
    · rw [if_neg hjk] at hpj
      refine ⟨?_, j, y, hgj, hj1, by rw [hpj]; exact hy, hgy⟩
      rw [hgj, names_at hpj]
      split
      · rename_i e
        rw [e, hgk] at hgj
        omega
      · rfl
  refine ⟨hde, ⟨?_, h.nodup, fun g hg => by rw [hdt]; exact (key g hg).2⟩, ?_⟩
  · rw [hdt]
    exact right_put h.right (by omega) (by omega) (by omega) (one_gone (by omega))
  · rw [hdt]
    apply List.ext_getElem?
    intro i
    rw [List.getElem?_set]
    by_cases hi : i < hs.length
    · have hgi : hs[i]? = some hs[i] := List.getElem?_eq_getElem hi
      rw [gones_at hgi, gones_at hgi, (key _ (List.getElem_mem hi)).1]
      by_cases hpi : p = i
      · subst hpi
        have : hs[p] = hd := by rw [hgi] at hp; exact Option.some.inj hp
        rw [if_pos this, if_pos rfl, if_pos (by rw [gones_length]; exact hi)]
        rfl
      · rw [if_neg hpi, if_neg]
        intro e
        have h1 : hs[i]? = hs[p]? := by rw [hgi, hp, e]
        exact hpi ((List.getElem?_inj hi h.nodup).1 h1).symm
    · rw [List.getElem?_eq_none (by rw [gones_length]; omega), List.getElem?_eq_none (by rw [gones_length]; omega)]
      have hpl : p < hs.length := (List.getElem?_eq_some_iff.1 hp).1
      rw [if_neg (by omega)]
end It
end Go.Proofs.YtacghcoikekfeaaGreat
