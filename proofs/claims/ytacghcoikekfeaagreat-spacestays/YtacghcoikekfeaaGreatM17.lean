/-
  The texts FPlainH, Sta, Sta1, SStp, as one.
-/
import Derived.Test.YtacghcoikekfeaaGreatM16
/- FPlainH -/
namespace Go.Proofs.YtacghcoikekfeaaGreat
set_option maxRecDepth 100000
namespace Fo
theorem called_not {s : ByteArray} {x : Ent} : called s x = false ↔ x.1 ≠ s := by
  rw [← Bool.not_eq_true, called_iff]
def okE (next : Int) (x : Ent) : Prop := Nm.ok x.1 ∧ (1 ≤ x.2.1 ∧ x.2.1 ≤ next) ∧ Ho x.2.2.1 x.2.2.2
theorem right_iff {l : List Ent} {next : Int} : Right l next ↔ (0 ≤ next ∧ next ≤ 1099511627776) ∧ (∀ x ∈ l, okE next x) ∧ l.Pairwise (fun a b => a.2.1 < b.2.1) ∧ apart l := by
  constructor
  · intro h
    refine ⟨h.1, fun x hx => ?_, ?_, h.2.2⟩
    · obtain ⟨i, hi⟩ := List.mem_iff_getElem?.1 hx
      have hl := (List.getElem?_eq_some_iff.1 hi).1
      have hg := h.2.1 i hl x hi
      have hb := lastC_bd (k := i) (fun j hj => h.2.1 j (by omega)) (by omega) h.1.1
      exact ⟨hg.1, ⟨by omega, hg.2.1.2⟩, hg.2.2⟩
    · rw [List.pairwise_iff_getElem]
      intro i j hi hj hij
      exact rising h j i _ _ hij (List.getElem?_eq_getElem hi) (List.getElem?_eq_getElem hj)
  · rintro ⟨h1, h2, h3, h4⟩
    refine ⟨h1, fun i hi x hx => ?_, h4⟩
    have hm := h2 x (List.mem_of_getElem? hx)
    refine ⟨hm.1, ⟨?_, hm.2.1.2⟩, hm.2.2⟩
    cases i with
    | zero =>
      have := hm.2.1.1
      simpa [lastC] using this
    | succ i =>
      have hy : l[i]? = some (l[i]'(by omega)) := List.getElem?_eq_getElem _
      rw [lastC_succ hy]
      have h5 := List.pairwise_iff_getElem.1 h3 i (i + 1) (by omega) hi (by omega)
      have h6 := (List.getElem?_eq_some_iff.1 hx).2
      rw [h6] at h5
      omega
theorem okE_mono {next next' : Int} {x : Ent} (h : okE next x) (hn : next ≤ next') : okE next' x := ⟨h.1, ⟨h.2.1.1, by have := h.2.1.2; omega⟩, h.2.2⟩
theorem right_add {l : List Ent} {next : Int} {s : ByteArray} {no gen : Int} (h : Right l next) (hs : Nm.ok s) (ho : Ho no gen) (ha : at' (called s) l = -1) (hn : next < 1099511627776) : Right (l ++ [(s, next + 1, no, gen)]) (next + 1) := by
  obtain ⟨h1, h2, h3, h4⟩ := right_iff.1 h
  have hno : ∀ x ∈ l, x.1 ≠ s := by
    rcases at_or (called s) l with ⟨-, hall⟩ | ⟨k, x, ht, -, -, -⟩
    · exact fun x hx => called_not.1 (hall x hx)
    · rw [ha] at ht
      omega
  refine right_iff.2 ⟨⟨by omega, by omega⟩, fun x hx => ?_, ?_, ?_⟩
  · rcases List.mem_append.1 hx with hx | hx
    · exact okE_mono (h2 x hx) (by omega)
    · simp at hx
      subst hx
      exact ⟨hs, ⟨by simp; omega, by simp⟩, ho⟩
  · rw [List.pairwise_append]
    refine ⟨h3, by simp, fun a ha b hb => ?_⟩
    simp at hb
    subst hb
    have := (h2 a ha).2.1.2
    simp
    omega
  · unfold apart at h4 ⊢
    rw [List.map_append, List.nodup_append]
    refine ⟨h4, by simp, fun a hma b hb => ?_⟩
    simp at hb
    subst hb
    obtain ⟨x, hx, rfl⟩ := List.mem_map.1 hma
    exact hno x hx
theorem right_cut {l : List Ent} {next : Int} (h : Right l next) (k : Nat) : Right (l.eraseIdx k) next := by
  obtain ⟨h1, h2, h3, h4⟩ := right_iff.1 h
  have hsub := List.eraseIdx_sublist l k
  refine right_iff.2 ⟨h1, fun x hx => h2 x (hsub.mem hx), h3.sublist hsub, ?_⟩
  unfold apart at h4 ⊢
  exact (hsub.map _).nodup h4
/-- What is there is found. -/
theorem found_at {l : List Ent} {next : Int} (h : Right l next) {i : Nat} {x : Ent} (hx : l[i]? = some x) : findErr l next x.1 = 0 ∧ found l next x.1 = x ∧ at' (called x.1) l = i := by
  obtain ⟨h1, h2, h3, h4⟩ := right_iff.1 h
  have hok := (h2 x (List.mem_of_getElem? hx)).1
  have hat : at' (called x.1) l = i := at_hit hx (called_iff.2 rfl) fun j y hj hy => called_not.2 fun he => by
    unfold apart at h4
    have hi := (List.getElem?_eq_some_iff.1 hx).1
    have hjl := (List.getElem?_eq_some_iff.1 hy).1
    have h5 := List.pairwise_iff_getElem.1 h4 j i (by simpa using hjl) (by simpa using hi) hj
    simp only [List.getElem_map] at h5
    rw [(List.getElem?_eq_some_iff.1 hx).2, (List.getElem?_eq_some_iff.1 hy).2] at h5
    exact h5 he
  have ha := ask_zero h hok
  have := findErr_hit ha hat
  exact ⟨this.1, found_hit this.1 this.2 hx, hat⟩
theorem find_has {l : List Ent} {next : Int} {s : ByteArray} {k : Nat} (h : Right l next) (ha : at' (called s) l = k) : findErr l next s = 0 ∧ plc l next s = k := by
  rcases at_or (called s) l with ⟨ht, -⟩ | ⟨k', x, ht, hx, hc, -⟩
  · rw [ha] at ht
    omega
  · have hs := called_iff.1 hc
    obtain ⟨-, h2, -, -⟩ := right_iff.1 h
    have hok := (h2 x (List.mem_of_getElem? hx)).1
    rw [hs] at hok
    exact findErr_hit (ask_zero h hok) ha
theorem find_not {l : List Ent} {next : Int} {s : ByteArray} (ha : at' (called s) l = -1) : findErr l next s ≠ 0 := by
  rcases ask_or l next s with ⟨hk, -, -⟩ | ⟨hk, -⟩ | ⟨hk, -, -⟩
  · rw [(findErr_miss hk ha).1]
    decide
  · rw [(findErr_ask hk (by decide)).1]
    decide
  · rw [(findErr_ask hk (by decide)).1]
    decide
def adds (what : Int) : Bool := what == 0 || what == 1
/-- A folder behind a step. -/
noncomputable def stp (l : List Ent) (next : Int) (what : Int) (s : ByteArray) : List Ent × Int :=
  if adds what = true then (if addErr l next s 1 1 = 0 then (l ++ [(s, next + 1, 1, 1)], next + 1) else (l, next)) else (if findErr l next s = 0 then (l.eraseIdx (plc l next s).toNat, next) else (l, next))
theorem add_iff {l : List Ent} {next : Int} {s : ByteArray} (h : Right l next) (hn : next < 1099511627776) : addErr l next s 1 1 = 0 ↔ Nm.ok s ∧ at' (called s) l = -1 := by
  constructor
  · intro h0
    have := add_zero h0
    exact ⟨this.2.1, this.2.2.2.1⟩
  · rintro ⟨h1, h2⟩
    exact add_ok (ask_zero h h1) ho_one h2 (by omega)
theorem stp_right {l : List Ent} {next what : Int} {s : ByteArray} (h : Right l next) (hn : next < 1099511627776) : Right (stp l next what s).1 (stp l next what s).2 ∧ next ≤ (stp l next what s).2 ∧ (stp l next what s).2 ≤ next + 1 ∧ (stp l next what s).1.length ≤ l.length + 1 := by
  unfold stp
  by_cases ha : adds what = true
  · rw [if_pos ha]
    by_cases h0 : addErr l next s 1 1 = 0
    · rw [if_pos h0]
      have := (add_iff h hn).1 h0
      exact ⟨right_add h this.1 ho_one this.2 hn, by simp; omega, by simp, by simp⟩
    · rw [if_neg h0]
      exact ⟨h, by simp, by simp; omega, by simp⟩
  · rw [if_neg ha]
    by_cases h0 : findErr l next s = 0
    · rw [if_pos h0]
      exact ⟨right_cut h _, by simp, by simp; omega, by
        have := List.length_eraseIdx_le l (plc l next s).toNat
        simp only
        omega⟩
    · rw [if_neg h0]
      exact ⟨h, by simp, by simp; omega, by simp⟩
end Fo
end Go.Proofs.YtacghcoikekfeaaGreat
/- Sta -/
namespace Go.Proofs.YtacghcoikekfeaaGreat
open It
set_option maxRecDepth 100000
set_option maxRecDepth 100000
namespace Sp
theorem cset (q : En → Bool) : ∀ (L : List Ino) (k : Nat) (x y : Ino), L[k]? = some x → (allEnts (L.set k y)).countP q + x.ents.countP q = (allEnts L).countP q + y.ents.countP q
  | [], k, x, y, h => by simp at h
  | z :: L, 0, x, y, h => by
    simp at h
    subst h
    simp only [allEnts, List.set_cons_zero, List.flatMap_cons, List.countP_append]
    omega
  | z :: L, k + 1, x, y, h => by
    have ih := cset q L k x y (by simpa using h)
    unfold allEnts at ih ⊢
    rw [List.set_cons_succ, List.flatMap_cons, List.flatMap_cons, List.countP_append, List.countP_append]
    omega
theorem cerase (q : En → Bool) : ∀ (l : List En) (j : Nat) (e : En), l[j]? = some e → (l.eraseIdx j).countP q + (if q e = true then 1 else 0) = l.countP q
  | [], j, e, h => by simp at h
  | z :: l, 0, e, h => by
    simp at h
    subst h
    rw [List.eraseIdx_cons_zero, List.countP_cons]
  | z :: l, j + 1, e, h => by
    have ih := cerase q l j e (by simpa using h)
    rw [List.eraseIdx_cons_succ, List.countP_cons, List.countP_cons]
    omega
theorem erase_sup {l : List En} {j : Nat} {e : En} (h : l[j]? = some e) : ∀ x ∈ l, x ∈ l.eraseIdx j ∨ x = e := by
  intro x hx
  obtain ⟨i, hi⟩ := List.mem_iff_getElem?.1 hx
  by_cases hij : i = j
  · subst hij
    rw [h] at hi
    exact .inr (Option.some.inj hi).symm
  · left
    rcases Nat.lt_or_gt_of_ne hij with h1 | h1
    · exact List.mem_of_getElem? (i := i) (by rw [List.getElem?_eraseIdx, if_pos h1]; exact hi)
    · refine List.mem_of_getElem? (i := i - 1) ?_
      rw [List.getElem?_eraseIdx, if_neg (by omega), show i - 1 + 1 = i by omega]
      exact hi
theorem isSp_mk {L : List Ino} (hr : It.right L = true) (ho : okAll L) (ha : ∀ c, dirAt L c = true → ∃ d, Anc L d 0 c) : isSp L = true :=
  isSp_iff.2 ⟨hr, ok_folds ho, ok_cntB hr ho, (reachB_iff (tree_of hr (ok_folds ho) (ok_cntB hr ho)) (right_len hr).2).2 ha⟩
theorem isSp_reach {L : List Ino} (hs : isSp L = true) {c : Nat} (hc : dirAt L c = true) : ∃ d, Anc L d 0 c := by
  obtain ⟨h1, _, _, h4⟩ := isSp_iff.1 hs
  exact (reachB_iff (isSp_tree hs) (right_len h1).2).1 h4 c hc
theorem dirAt_iff {L : List Ino} {c : Nat} : dirAt L c = true ↔ ∃ x, L[c]? = some x ∧ x.kind = 2 := by
  unfold dirAt
  cases h : L[c]? with
  | none => simp
  | some x => simp
theorem mem_entsAt {L : List Ino} {p : Nat} {e : En} : e ∈ entsAt L p ↔ ∃ x, L[p]? = some x ∧ e ∈ x.ents := by
  unfold entsAt
  cases h : L[p]? with
  | none => simp
  | some x => simp
theorem child_iff {L : List Ino} {p c : Nat} : Child L p c ↔ (∃ x, L[p]? = some x ∧ ∃ e ∈ x.ents, e.2.2.1 = (c : Int)) ∧ dirAt L c = true := by
  unfold Child
  refine and_congr ⟨?_, ?_⟩ Iff.rfl
  · rintro ⟨e, he, hc⟩
    obtain ⟨x, hx, hex⟩ := mem_entsAt.1 he
    exact ⟨x, hx, e, hex, by simpa [toNo] using hc⟩
  · rintro ⟨x, hx, e, he, hc⟩
    exact ⟨e, mem_entsAt.2 ⟨x, hx, he⟩, by simp [toNo, hc]⟩
theorem anc_mono {L L' : List Ino} (h : ∀ p c, Child L p c → Child L' p c) : ∀ (d a c : Nat), Anc L d a c → Anc L' d a c
  | 0, _, _, ha => ha
  | d + 1, a, c, ha => by
    obtain ⟨p, h1, h2⟩ := ha
    exact ⟨p, anc_mono h d a p h1, h p c h2⟩
theorem get_two {L : List Ino} {kc kt : Nat} {xc xt y z : Ino} (hne : kc ≠ kt) (hc : L[kc]? = some xc) (ht : L[kt]? = some xt) (i : Nat) : ((L.set kc y).set kt z)[i]? = if i = kt then some z else if i = kc then some y else L[i]? := by
  have hcl := (List.getElem?_eq_some_iff.1 hc).1
  have htl := (List.getElem?_eq_some_iff.1 ht).1
  rw [List.getElem?_set]
  by_cases h1 : i = kt
  · subst h1
    simp [htl]
  · rw [if_neg (fun h => h1 h.symm), if_neg h1, List.getElem?_set]
    by_cases h2 : i = kc
    · subst h2
      simp [hcl]
    · rw [if_neg (fun h => h2 h.symm), if_neg h2]
theorem names_to {L L' : List Ino} {a b : Int} (h : names L a b = true) (hK : ∀ (k : Nat) x, L[k]? = some x → a = k → x.kind ≠ 0 → ∃ x', L'[k]? = some x' ∧ x'.gen = x.gen ∧ x'.kind = x.kind) : names L' a b = true := by
  obtain ⟨i, x, hx, hno, hg, hk⟩ := names_iff.1 h
  obtain ⟨x', h1, h2, h3⟩ := hK i x hx hno hk
  exact names_iff.2 ⟨i, x', h1, hno, by rw [h2]; exact hg, by rw [h3]; exact hk⟩
theorem all_of {L : List Ino} {p : Nat} {x : Ino} {e : En} (h : L[p]? = some x) (he : e ∈ x.ents) : e ∈ allEnts L := List.mem_flatMap.2 ⟨x, List.mem_of_getElem? h, he⟩
/-- A file has another name, or one less. -/
theorem stays_file {L : List Ino} {kc kt : Nat} {xc xt : Ino} {es : List Ent} {nx st n : Int} (hs : isSp L = true) (hc : L[kc]? = some xc) (hk : xc.kind = 2) (ht : L[kt]? = some xt) (hkt : xt.kind = 1) (hst : 0 ≤ st ∧ st ≤ 1099511627776)
    (hR : Fo.Right es nx) (hlen : es.length ≤ 1048576) (hlk : 0 ≤ xt.links + n ∧ xt.links + n ≤ 64) (hcount : ∀ i : Int, (es.countP (toI i) : Int) = xc.ents.countP (toI i) + (if i = kt then n else 0))
    (hmem : ∀ e ∈ es, e ∈ xc.ents ∨ e.2.2 = ((kt : Int), xt.gen)) (hsup : ∀ e ∈ xc.ents, e ∈ es ∨ e.2.2.1 = kt) : isSp ((L.set kc (filled xc es nx st)).set kt (linked xt n st)) = true := by
  have h1 := (isSp_iff.1 hs).1
  have ho := isSp_ok hs
  have hne : kc ≠ kt := by
    rintro rfl
    rw [hc] at ht
    cases ht
    omega
  have hone := (It.right_iff.1 h1).2.2
  obtain ⟨L', hL'⟩ : ∃ L', L' = (L.set kc (filled xc es nx st)).set kt (linked xt n st) := ⟨_, rfl⟩
  have hg : ∀ i, L'[i]? = if i = kt then some (linked xt n st) else if i = kc then some (filled xc es nx st) else L[i]? := by
    rw [hL']
    exact get_two hne hc ht
  have ht1 : (L.set kc (filled xc es nx st))[kt]? = some xt := by rw [List.getElem?_set_ne hne]; exact ht
  have hr : It.right L' = true := by
    rw [hL']
    have r1 := right_set h1 hc (one_filled (hone xc (List.mem_of_getElem? hc)) hk hst hlen (nx := nx)) rfl
    exact right_set r1 ht1 (one_linked (hone xt (List.mem_of_getElem? ht)) hkt hst hlk) rfl
  have hn : ∀ i : Int, (nmv L' i : Int) = nmv L i + (if i = kt then n else 0) := by
    intro i
    have c1 := cset (toI i) L kc xc (filled xc es nx st) hc
    have c2 := cset (toI i) (L.set kc (filled xc es nx st)) kt xt (linked xt n st) ht1
    have c3 := hcount i
    have e1 : (filled xc es nx st).ents = es := rfl
    have e2 : (linked xt n st).ents = xt.ents := rfl
    rw [e1] at c1
    rw [e2] at c2
    rw [hL']
    unfold nmv
    omega
  rw [← hL']
  have hkeep : ∀ (k : Nat) x, L[k]? = some x → ∃ x', L'[k]? = some x' ∧ x'.gen = x.gen ∧ x'.kind = x.kind := by
    intro k x hx
    rw [hg]
    by_cases e1 : k = kt
    · subst e1
      rw [ht] at hx
      cases hx
      exact ⟨_, if_pos rfl, rfl, rfl⟩
    · rw [if_neg e1]
      by_cases e2 : k = kc
      · subst e2
        rw [hc] at hx
        cases hx
        exact ⟨_, if_pos rfl, rfl, rfl⟩
      · rw [if_neg e2]
        exact ⟨x, hx, rfl, rfl⟩
  have hnm : ∀ a b, names L a b = true → names L' a b = true := fun a b h => names_to h fun k x hx _ _ => hkeep k x hx
  have hnt : names L kt xt.gen = true := names_iff.2 ⟨kt, xt, ht, rfl, rfl, by omega⟩
  have hall : ∀ e ∈ allEnts L, names L e.2.2.1 e.2.2.2 = true := ok_named h1 ho
  have hk0 : kt ≠ 0 := by
    rintro rfl
    have := root_kind h1 ht
    omega
  refine isSp_mk hr (fun i x' hx' => ?_) fun c hd => ?_
  · rw [hg] at hx'
    have hni := hn (i : Int)
    split at hx'
    · rename_i e1
      cases hx'
      subst e1
      obtain ⟨_, _, n1, n2, n3⟩ := ho i xt ht
      rw [if_pos rfl] at hni
      refine ⟨fun h => ?_, fun h => ?_, fun h => ?_, fun h => ?_, fun h => absurd h hk0⟩
      · have h2 : xt.kind = 2 := h
        omega
      · have h2 : xt.kind = 2 := h
        omega
      · have h3 := n1 hkt
        show (nmv L' i : Int) = xt.links + n
        omega
      · have h2 : xt.kind = 2 := h
        omega
    · rename_i e1
      rw [if_neg (by omega)] at hni
      split at hx'
      · rename_i e2
        cases hx'
        subst e2
        obtain ⟨_, _, n1, n2, n3⟩ := ho i xc hc
        refine ⟨fun _ => ⟨hR, rfl⟩, fun _ e he => ?_, fun h => ?_, fun h h0 => ?_, fun h => ?_⟩
        · rcases hmem e he with h | h
          · exact hnm _ _ (hall e (all_of hc h))
          · rw [h]
            exact hnm _ _ hnt
        · have h2 : xc.kind = 1 := h
          omega
        · have := n2 hk h0
          omega
        · have := n3 h
          omega
      · obtain ⟨o1, o2, n1, n2, n3⟩ := ho i x' hx'
        refine ⟨o1, fun h e he => hnm _ _ (o2 h e he), fun h => ?_, fun h h0 => ?_, fun h => ?_⟩
        · have := n1 h
          omega
        · have := n2 h h0
          omega
        · have := n3 h
          omega
  · have hdl : ∀ c, dirAt L' c = true → dirAt L c = true := fun c hd => by
      obtain ⟨x', hx', hk'⟩ := dirAt_iff.1 hd
      rw [hg] at hx'
      split at hx'
      · cases hx'
        have h2 : xt.kind = 2 := hk'
        omega
      · split at hx'
        · rename_i e2
          subst e2
          exact dirAt_iff.2 ⟨xc, hc, hk⟩
        · exact dirAt_iff.2 ⟨x', hx', hk'⟩
    have hdr : ∀ c, dirAt L c = true → dirAt L' c = true := fun c hd => by
      obtain ⟨x, hx, hkx⟩ := dirAt_iff.1 hd
      obtain ⟨x', h1, _, h3⟩ := hkeep c x hx
      exact dirAt_iff.2 ⟨x', h1, by rw [h3]; exact hkx⟩
    obtain ⟨d, ha⟩ := isSp_reach hs (hdl c hd)
    refine ⟨d, anc_mono (fun p c hpc => ?_) d 0 c ha⟩
    obtain ⟨⟨x, hx, e, he, hec⟩, hdc⟩ := child_iff.1 hpc
    refine child_iff.2 ⟨?_, hdr c hdc⟩
    rw [hg]
    by_cases e1 : p = kt
    · subst e1
      rw [ht] at hx
      cases hx
      exact ⟨_, if_pos rfl, e, he, hec⟩
    · rw [if_neg e1]
      by_cases e2 : p = kc
      · subst e2
        rw [hc] at hx
        cases hx
        rcases hsup e he with h | h
        · exact ⟨_, if_pos rfl, e, h, hec⟩
        · exfalso
          obtain ⟨x, hx, hkx⟩ := dirAt_iff.1 hdc
          have : c = kt := by omega
          subst this
          rw [ht] at hx
          cases hx
          omega
      · rw [if_neg e2]
        exact ⟨x, hx, e, he, hec⟩
/-- A folder without entries is gone. -/
theorem stays_rm {L : List Ino} {kc kt : Nat} {xc xt : Ino} {es : List Ent} {st : Int} (hs : isSp L = true) (hc : L[kc]? = some xc) (hk : xc.kind = 2) (ht : L[kt]? = some xt) (hkt : xt.kind = 2) (hte : xt.ents = []) (h0 : kt ≠ 0) (hne : kc ≠ kt) (hst : 0 ≤ st ∧ st ≤ 1099511627776)
    (hR : Fo.Right es xc.next) (hlen : es.length ≤ 1048576) (hcount : ∀ i : Int, (es.countP (toI i) : Int) = xc.ents.countP (toI i) + (if i = kt then -1 else 0))
    (hmem : ∀ e ∈ es, e ∈ xc.ents) (hsup : ∀ e ∈ xc.ents, e ∈ es ∨ e.2.2.1 = kt) : isSp ((L.set kc (filled xc es xc.next st)).set kt (gone xt.gen)) = true := by
  have h1 := (isSp_iff.1 hs).1
  have ho := isSp_ok hs
  have hone := (It.right_iff.1 h1).2.2
  obtain ⟨L', hL'⟩ : ∃ L', L' = (L.set kc (filled xc es xc.next st)).set kt (gone xt.gen) := ⟨_, rfl⟩
  have hg : ∀ i, L'[i]? = if i = kt then some (gone xt.gen) else if i = kc then some (filled xc es xc.next st) else L[i]? := by
    rw [hL']
    exact get_two hne hc ht
  have ht1 : (L.set kc (filled xc es xc.next st))[kt]? = some xt := by rw [List.getElem?_set_ne hne]; exact ht
  have htl := (List.getElem?_eq_some_iff.1 ht1).1
  have hlen24 := right_len h1
  have hr : It.right L' = true := by
    rw [hL']
    have r1 := right_set h1 hc (one_filled (hone xc (List.mem_of_getElem? hc)) hk hst hlen (nx := xc.next)) rfl
    have r2 := right_put (no := kt) (x := gone xt.gen) r1 (Nat.le_of_lt htl) (by rw [List.length_set] at htl; omega) (by omega) (one_gone (one_bd (hone xt (List.mem_of_getElem? ht))))
    rwa [put_set ht1] at r2
  have hn : ∀ i : Int, (nmv L' i : Int) = nmv L i + (if i = kt then -1 else 0) := by
    intro i
    have c1 := cset (toI i) L kc xc (filled xc es xc.next st) hc
    have c2 := cset (toI i) (L.set kc (filled xc es xc.next st)) kt xt (gone xt.gen) ht1
    have c3 := hcount i
    have e1 : (filled xc es xc.next st).ents = es := rfl
    have e2 : (gone xt.gen).ents = [] := rfl
    rw [e1] at c1
    rw [e2, hte] at c2
    rw [hL']
    unfold nmv
    omega
  rw [← hL']
  have hkeep : ∀ (k : Nat) x, L[k]? = some x → k ≠ kt → ∃ x', L'[k]? = some x' ∧ x'.gen = x.gen ∧ x'.kind = x.kind := by
    intro k x hx e1
    rw [hg, if_neg e1]
    by_cases e2 : k = kc
    · subst e2
      rw [hc] at hx
      cases hx
      exact ⟨_, if_pos rfl, rfl, rfl⟩
    · rw [if_neg e2]
      exact ⟨x, hx, rfl, rfl⟩
  have hz : (nmv L' (kt : Int) : Int) = 0 := by
    have := (ho kt xt ht).2.2.2.1 hkt (by omega)
    have h2 := hn (kt : Int)
    rw [if_pos rfl] at h2
    omega
  have hall : ∀ e ∈ allEnts L, names L e.2.2.1 e.2.2.2 = true := ok_named h1 ho
  have hnm : ∀ e ∈ allEnts L', e ∈ allEnts L → names L' e.2.2.1 e.2.2.2 = true := fun e he' he => names_to (hall e he) fun k x hx hek _ => hkeep k x hx (by
    rintro rfl
    have : nmv L' (k : Int) = 0 := by omega
    unfold nmv at this
    exact List.countP_eq_zero.1 this e he' (by simp [toI, hek]))
  refine isSp_mk hr (fun i x' hx' => ?_) fun c hd => ?_
  · have hx'0 := hx'
    rw [hg] at hx'
    have hni := hn (i : Int)
    split at hx'
    · rename_i e1
      cases hx'
      subst e1
      refine ⟨fun h => ?_, fun h => ?_, fun h => ?_, fun h => ?_, fun h => absurd h h0⟩
      all_goals
        first
          | (have h2 : (0 : Int) = 2 := h
             omega)
          | (have h2 : (0 : Int) = 1 := h
             omega)
    · rename_i e1
      rw [if_neg (by omega)] at hni
      split at hx'
      · rename_i e2
        cases hx'
        subst e2
        obtain ⟨_, _, n1, n2, n3⟩ := ho i xc hc
        refine ⟨fun _ => ⟨hR, rfl⟩, fun _ e he => hnm e (all_of hx'0 he) (all_of hc (hmem e he)), fun h => ?_, fun h h0 => ?_, fun h => ?_⟩
        · have h2 : xc.kind = 1 := h
          omega
        · have := n2 hk h0
          omega
        · have := n3 h
          omega
      · obtain ⟨o1, o2, n1, n2, n3⟩ := ho i x' hx'
        refine ⟨o1, fun h e he => hnm e (all_of hx'0 he) (all_of hx' he), fun h => ?_, fun h h0 => ?_, fun h => ?_⟩
        · have := n1 h
          omega
        · have := n2 h h0
          omega
        · have := n3 h
          omega
  · have hdl : ∀ c, dirAt L' c = true → dirAt L c = true ∧ c ≠ kt := fun c hd => by
      obtain ⟨x', hx', hk'⟩ := dirAt_iff.1 hd
      rw [hg] at hx'
      split at hx'
      · cases hx'
        have h2 : (0 : Int) = 2 := hk'
        omega
      · rename_i e1
        refine ⟨?_, e1⟩
        split at hx'
        · rename_i e2
          subst e2
          exact dirAt_iff.2 ⟨xc, hc, hk⟩
        · exact dirAt_iff.2 ⟨x', hx', hk'⟩
    have hdr : ∀ c, dirAt L c = true → c ≠ kt → dirAt L' c = true := fun c hd hct => by
      obtain ⟨x, hx, hkx⟩ := dirAt_iff.1 hd
      obtain ⟨x', h1, _, h3⟩ := hkeep c x hx hct
      exact dirAt_iff.2 ⟨x', h1, by rw [h3]; exact hkx⟩
    have key : ∀ (d c : Nat), Anc L d 0 c → c ≠ kt → Anc L' d 0 c := by
      intro d
      induction d with
      | zero => exact fun c ha _ => ha
      | succ d ih =>
        intro c ha hct
        obtain ⟨p, hp, hpc⟩ := ha
        obtain ⟨⟨x, hx, e, he, hec⟩, hdc⟩ := child_iff.1 hpc
        have hpt : p ≠ kt := by
          rintro rfl
          rw [ht] at hx
          cases hx
          rw [hte] at he
          cases he
        refine ⟨p, ih p hp hpt, child_iff.2 ⟨?_, hdr c hdc hct⟩⟩
        rw [hg, if_neg hpt]
        by_cases e2 : p = kc
        · subst e2
          rw [hc] at hx
          cases hx
          rcases hsup e he with h | h
          · exact ⟨_, if_pos rfl, e, h, hec⟩
          · exact absurd (show c = kt by omega) hct
        · rw [if_neg e2]
          exact ⟨x, hx, e, he, hec⟩
    obtain ⟨hdc, hct⟩ := hdl c hd
    obtain ⟨d, ha⟩ := isSp_reach hs hdc
    exact ⟨d, key d c ha hct⟩
/-- A name moves. -/
theorem stays_rn {L : List Ino} {kc kd kt : Nat} {xc x1 : Ino} {es es2 : List Ent} {nx st : Int} {e2 : Ent} (hs : isSp L = true) (hc : L[kc]? = some xc) (hk : xc.kind = 2) (hd1 : (L.set kc (filled xc es xc.next st))[kd]? = some x1) (hk1 : x1.kind = 2) (hst : 0 ≤ st ∧ st ≤ 1099511627776)
    (hR : Fo.Right es xc.next) (hlen : es.length ≤ 1048576) (hR2 : Fo.Right es2 nx) (hlen2 : es2.length ≤ 1048576) (he2 : es2 = x1.ents ++ [e2]) (hto : e2.2.2.1 = kt) (hnt : names L e2.2.2.1 e2.2.2.2 = true)
    (hcount : ∀ i : Int, (es.countP (toI i) : Int) = xc.ents.countP (toI i) + (if i = kt then -1 else 0)) (hmem : ∀ e ∈ es, e ∈ xc.ents) (hsup : ∀ e ∈ xc.ents, e ∈ es ∨ e.2.2.1 = kt) (hin : dirAt L kt = true → ¬ ∃ d, Anc L d kt kd) : isSp ((L.set kc (filled xc es xc.next st)).set kd (filled x1 es2 nx st)) = true := by
  have h1 := (isSp_iff.1 hs).1
  have ho := isSp_ok hs
  have htree := isSp_tree hs
  have hone := (It.right_iff.1 h1).2.2
  have hcl := (List.getElem?_eq_some_iff.1 hc).1
  have hdl1 := (List.getElem?_eq_some_iff.1 hd1).1
  obtain ⟨L1, hL1⟩ : ∃ L1, L1 = L.set kc (filled xc es xc.next st) := ⟨_, rfl⟩
  have r1 : It.right L1 = true := by
    rw [hL1]
    exact right_set h1 hc (one_filled (hone xc (List.mem_of_getElem? hc)) hk hst hlen (nx := xc.next)) rfl
  have hg1 : ∀ i, L1[i]? = if i = kc then some (filled xc es xc.next st) else L[i]? := by
    intro i
    rw [hL1, List.getElem?_set]
    by_cases h : i = kc
    · subst h
      simp [hcl]
    · rw [if_neg (fun e => h e.symm), if_neg h]
  rw [← hL1] at hd1 hdl1 ⊢
  obtain ⟨L', hL'⟩ : ∃ L', L' = L1.set kd (filled x1 es2 nx st) := ⟨_, rfl⟩
  have hg : ∀ i, L'[i]? = if i = kd then some (filled x1 es2 nx st) else L1[i]? := by
    intro i
    rw [hL', List.getElem?_set]
    by_cases h : i = kd
    · subst h
      simp [hdl1]
    · rw [if_neg (fun e => h e.symm), if_neg h]
  have hr : It.right L' = true := by
    rw [hL']
    exact right_set r1 hd1 (one_filled ((It.right_iff.1 r1).2.2 x1 (List.mem_of_getElem? hd1)) hk1 hst hlen2 (nx := nx)) rfl
  have hn : ∀ i : Int, nmv L' i = nmv L i := by
    intro i
    have c1 := cset (toI i) L kc xc (filled xc es xc.next st) hc
    have c2 := cset (toI i) L1 kd x1 (filled x1 es2 nx st) hd1
    have c3 := hcount i
    have e1 : (filled xc es xc.next st).ents = es := rfl
    have e2' : (filled x1 es2 nx st).ents = x1.ents ++ [e2] := he2
    rw [e1, ← hL1] at c1
    rw [e2', List.countP_append, List.countP_cons, List.countP_nil] at c2
    have c4 : (if toI i e2 = true then 1 else 0 : Nat) = if i = kt then 1 else 0 := by
      by_cases h : i = kt
      · rw [if_pos h, if_pos (by simp [toI, hto, h])]
      · rw [if_neg h, if_neg (by simp [toI, hto]; omega)]
    rw [c4] at c2
    rw [hL']
    unfold nmv
    split at c2 <;> split at c3 <;> omega
  rw [← hL']
  -- what was there, with its folder's entries
  have hold : ∀ (k : Nat) x, L[k]? = some x → ∃ x', L'[k]? = some x' ∧ x'.gen = x.gen ∧ x'.kind = x.kind ∧ x'.links = x.links ∧ ∀ e ∈ x.ents, e ∈ x'.ents ∨ e.2.2.1 = kt := by
    intro k x hx
    have m1 : ∃ y, L1[k]? = some y ∧ y.gen = x.gen ∧ y.kind = x.kind ∧ y.links = x.links ∧ ∀ e ∈ x.ents, e ∈ y.ents ∨ e.2.2.1 = kt := by
      rw [hg1]
      by_cases e1 : k = kc
      · subst e1
        rw [hc] at hx
        cases hx
        exact ⟨_, if_pos rfl, rfl, rfl, rfl, hsup⟩
      · rw [if_neg e1]
        exact ⟨x, hx, rfl, rfl, rfl, fun e he => .inl he⟩
    obtain ⟨y, hy, y1, y2, y3, y4⟩ := m1
    rw [hg]
    by_cases e1 : k = kd
    · subst e1
      rw [hd1] at hy
      cases hy
      refine ⟨_, if_pos rfl, y1, y2, y3, fun e he => ?_⟩
      rcases y4 e he with h | h
      · left
        show e ∈ es2
        rw [he2]
        exact List.mem_append_left _ h
      · exact .inr h
    · rw [if_neg e1]
      exact ⟨y, hy, y1, y2, y3, y4⟩
  have hnew : ∀ (k : Nat) x', L'[k]? = some x' → ∃ x, L[k]? = some x ∧ x'.gen = x.gen ∧ x'.kind = x.kind ∧ x'.links = x.links ∧ (fold x') ∧ ∀ e ∈ x'.ents, e ∈ x.ents ∨ e.2.2 = e2.2.2 := by
    have m1 : ∀ (k : Nat) y, L1[k]? = some y → ∃ x, L[k]? = some x ∧ y.gen = x.gen ∧ y.kind = x.kind ∧ y.links = x.links ∧ fold y ∧ ∀ e ∈ y.ents, e ∈ x.ents := by
      intro k y hy
      rw [hg1] at hy
      split at hy
      · rename_i e1
        subst e1
        cases hy
        exact ⟨xc, hc, rfl, rfl, rfl, fun _ => ⟨hR, rfl⟩, hmem⟩
      · exact ⟨y, hy, rfl, rfl, rfl, (ho k y hy).1, fun e he => he⟩
    intro k x' hx'
    rw [hg] at hx'
    split at hx'
    · rename_i e1
      subst e1
      cases hx'
      obtain ⟨x, hx, y1, y2, y3, _, y4⟩ := m1 k x1 hd1
      refine ⟨x, hx, y1, y2, y3, fun _ => ⟨hR2, rfl⟩, fun e he => ?_⟩
      have he' : e ∈ x1.ents ++ [e2] := by rw [← he2]; exact he
      rcases List.mem_append.1 he' with h | h
      · exact .inl (y4 e h)
      · exact .inr (by rw [List.mem_singleton.1 h])
    · obtain ⟨x, hx, y1, y2, y3, y4, y5⟩ := m1 k x' hx'
      exact ⟨x, hx, y1, y2, y3, y4, fun e he => .inl (y5 e he)⟩
  have hall : ∀ e ∈ allEnts L, names L e.2.2.1 e.2.2.2 = true := ok_named h1 ho
  have hnm : ∀ a b, names L a b = true → names L' a b = true := fun a b h => names_to h fun k x hx _ _ => by
    obtain ⟨x', a1, a2, a3, _⟩ := hold k x hx
    exact ⟨x', a1, a2, a3⟩
  refine isSp_mk hr (fun i x' hx' => ?_) fun c hd => ?_
  · obtain ⟨x, hx, y1, y2, y3, y4, y5⟩ := hnew i x' hx'
    obtain ⟨o1, o2, n1, n2, n3⟩ := ho i x hx
    refine ⟨y4, fun h e he => ?_, fun h => ?_, fun h h0 => ?_, fun h => ?_⟩
    · rcases y5 e he with h | h
      · exact hnm _ _ (hall e (all_of hx h))
      · rw [h]
        exact hnm _ _ hnt
    · rw [hn, n1 (by rw [← y2]; exact h), y3]
    · rw [hn]
      exact n2 (by rw [← y2]; exact h) h0
    · rw [hn]
      exact n3 h
  · have hdl : ∀ c, dirAt L' c = true → dirAt L c = true := fun c hd => by
      obtain ⟨x', hx', hk'⟩ := dirAt_iff.1 hd
      obtain ⟨x, hx, _, y2, _⟩ := hnew c x' hx'
      exact dirAt_iff.2 ⟨x, hx, by rw [← y2]; exact hk'⟩
    have hdr : ∀ c, dirAt L c = true → dirAt L' c = true := fun c hd => by
      obtain ⟨x, hx, hkx⟩ := dirAt_iff.1 hd
      obtain ⟨x', h1, _, h3, _⟩ := hold c x hx
      exact dirAt_iff.2 ⟨x', h1, by rw [h3]; exact hkx⟩
    have hch : ∀ p c, Child L p c → c ≠ kt → Child L' p c := fun p c hpc hct => by
      obtain ⟨⟨x, hx, e, he, hec⟩, hdc⟩ := child_iff.1 hpc
      obtain ⟨x', g1, _, _, _, g5⟩ := hold p x hx
      rcases g5 e he with h | h
      · exact child_iff.2 ⟨⟨x', g1, e, h, hec⟩, hdr c hdc⟩
      · exact absurd (show c = kt by omega) hct
    obtain ⟨d, ha⟩ := isSp_reach hs (hdl c hd)
    cases hdt : dirAt L kt with
    | false =>
      refine ⟨d, anc_mono (fun p c hpc => hch p c hpc ?_) d 0 c ha⟩
      rintro rfl
      rw [hpc.2] at hdt
      cases hdt
    | true =>
      have hno := hin hdt
      have k1 : ∀ (d c : Nat), Anc L d 0 c → (¬ ∃ m, Anc L m kt c) → Anc L' d 0 c := by
        intro d
        induction d with
        | zero => exact fun c ha _ => ha
        | succ d ih =>
          intro c ha hnc
          obtain ⟨p, hp, hpc⟩ := ha
          refine ⟨p, ih p hp fun ⟨m, hm⟩ => hnc ⟨m + 1, p, hm, hpc⟩, hch p c hpc ?_⟩
          rintro rfl
          exact hnc ⟨0, rfl⟩
      have hdd : dirAt L kd = true := hdl kd (dirAt_iff.2 ⟨filled x1 es2 nx st, by rw [hg, if_pos rfl], hk1⟩)
      obtain ⟨m, hm⟩ := isSp_reach hs hdd
      have hkd := k1 m kd hm hno
      have hct : Child L' kd kt := child_iff.2 ⟨⟨filled x1 es2 nx st, by rw [hg, if_pos rfl], e2, by show e2 ∈ es2; rw [he2]; simp, hto⟩, hdr kt hdt⟩
      obtain ⟨mt, hmt⟩ := isSp_reach hs hdt
      have k2 : ∀ (d c : Nat), Anc L d kt c → ∃ d', Anc L' d' 0 c := by
        intro d
        induction d with
        | zero =>
          intro c ha
          have e : kt = c := ha
          subst e
          exact ⟨m + 1, kd, hkd, hct⟩
        | succ d ih =>
          intro c ha
          have ha0 := ha
          obtain ⟨p, hp, hpc⟩ := ha
          obtain ⟨d', hd'⟩ := ih p hp
          refine ⟨d' + 1, p, hd', hch p c hpc ?_⟩
          rintro rfl
          have := anc_cycle htree hmt ha0
          omega
      by_cases hb : ∃ m, Anc L m kt c
      · obtain ⟨m', hm'⟩ := hb
        exact k2 m' c hm'
      · exact ⟨d, k1 d c ha hb⟩
/-- A name is made. -/
theorem stays_mk {L : List Ino} {kc nn : Nat} {xc : Ino} {es : List Ent} {nx st g kind : Int} {e2 : Ent} (hs : isSp L = true) (hc : L[kc]? = some xc) (hk : xc.kind = 2) (hkind : kind = 1 ∨ kind = 2) (hnn : (∃ x0, L[nn]? = some x0 ∧ x0.kind = 0) ∨ nn = L.length) (hn0 : 1 ≤ nn)
    (hr1 : It.right (put L nn (fresh g kind st)) = true) (hst : 0 ≤ st ∧ st ≤ 1099511627776) (hR : Fo.Right es nx) (hlen : es.length ≤ 1048576) (he : es = xc.ents ++ [e2]) (hto : e2.2.2 = ((nn : Int), g)) :
    isSp ((put L nn (fresh g kind st)).set kc (filled xc es nx st)) = true := by
  have h1 := (isSp_iff.1 hs).1
  have ho := isSp_ok hs
  have hnl : nn ≤ L.length := by
    rcases hnn with ⟨x0, hx0, _⟩ | h
    · exact Nat.le_of_lt (List.getElem?_eq_some_iff.1 hx0).1
    · omega
  have hne : kc ≠ nn := by
    rintro rfl
    rcases hnn with ⟨x0, hx0, hk0⟩ | h
    · rw [hc] at hx0
      cases hx0
      omega
    · have := (List.getElem?_eq_some_iff.1 hc).1
      omega
  have hg1 := put_at (x := fresh g kind st) hnl
  have hc1 : (put L nn (fresh g kind st))[kc]? = some xc := by rw [hg1, if_neg hne]; exact hc
  have hcl := (List.getElem?_eq_some_iff.1 hc1).1
  obtain ⟨L', hL'⟩ : ∃ L', L' = (put L nn (fresh g kind st)).set kc (filled xc es nx st) := ⟨_, rfl⟩
  have hg : ∀ i, L'[i]? = if i = kc then some (filled xc es nx st) else if i = nn then some (fresh g kind st) else L[i]? := by
    intro i
    rw [hL', List.getElem?_set]
    by_cases h : i = kc
    · subst h
      simp [hcl]
    · rw [if_neg (fun e => h e.symm), if_neg h]
      exact hg1 i
  have hr : It.right L' = true := by
    rw [hL']
    exact right_set hr1 hc1 (one_filled ((It.right_iff.1 hr1).2.2 xc (List.mem_of_getElem? hc1)) hk hst hlen (nx := nx)) rfl
  have hnone : ∀ x, L[nn]? = some x → x.kind = 0 := by
    intro x hx
    rcases hnn with ⟨x0, hx0, hk0⟩ | h
    · rw [hx] at hx0
      cases hx0
      exact hk0
    · rw [h] at hx
      simp at hx
  have hall : ∀ e ∈ allEnts L, names L e.2.2.1 e.2.2.2 = true := ok_named h1 ho
  have hz : nmv L (nn : Int) = 0 := by
    unfold nmv
    refine List.countP_eq_zero.2 fun e hem hq => ?_
    obtain ⟨i, x, hx, hno, _, hkx⟩ := names_iff.1 (hall e hem)
    have hq' : e.2.2.1 = (nn : Int) := by simpa [toI] using hq
    have : i = nn := by omega
    subst this
    exact hkx (hnone x hx)
  have hput : ∀ q, (allEnts (put L nn (fresh g kind st))).countP q = (allEnts L).countP q := by
    intro q
    unfold put
    split
    · rename_i hlt
      have hx0 : L[nn]? = some L[nn] := List.getElem?_eq_getElem hlt
      have c1 := cset q L nn _ (fresh g kind st) hx0
      have e0 : L[nn].ents = [] := by
        cases hl : L[nn].ents with
        | nil => rfl
        | cons e r =>
          have h2 := ents_dir h1 hx0 (e := e) (by rw [hl]; simp)
          have h3 := hnone _ hx0
          omega
      have e1 : (fresh g kind st).ents = [] := rfl
      rw [e0, e1] at c1
      omega
    · have e1 : (fresh g kind st).ents = [] := rfl
      simp [allEnts, e1]
  have hn : ∀ i : Int, nmv L' i = nmv L i + (if i = nn then 1 else 0) := by
    intro i
    have c2 := cset (toI i) (put L nn (fresh g kind st)) kc xc (filled xc es nx st) hc1
    have e2' : (filled xc es nx st).ents = xc.ents ++ [e2] := he
    rw [e2', List.countP_append, List.countP_cons, List.countP_nil, hput] at c2
    have c4 : (if toI i e2 = true then 1 else 0 : Nat) = if i = nn then 1 else 0 := by
      by_cases h : i = nn
      · rw [if_pos h, if_pos (by simp [toI, hto, h])]
      · rw [if_neg h, if_neg (by simp [toI, hto]; omega)]
    rw [c4] at c2
    rw [hL']
    unfold nmv
    omega
  rw [← hL']
  have hkeep : ∀ (k : Nat) x, L[k]? = some x → x.kind ≠ 0 → ∃ x', L'[k]? = some x' ∧ x'.gen = x.gen ∧ x'.kind = x.kind ∧ ∀ e ∈ x.ents, e ∈ x'.ents := by
    intro k x hx hkx
    rw [hg]
    by_cases e1 : k = kc
    · subst e1
      rw [hc] at hx
      cases hx
      refine ⟨_, if_pos rfl, rfl, rfl, fun e hem => ?_⟩
      show e ∈ es
      rw [he]
      exact List.mem_append_left _ hem
    · rw [if_neg e1, if_neg (by rintro rfl; exact hkx (hnone x hx))]
      exact ⟨x, hx, rfl, rfl, fun e h => h⟩
  have hnm : ∀ a b, names L a b = true → names L' a b = true := fun a b h => names_to h fun k x hx _ hkx => by
    obtain ⟨x', a1, a2, a3, _⟩ := hkeep k x hx hkx
    exact ⟨x', a1, a2, a3⟩
  have hnew : L'[nn]? = some (fresh g kind st) := by rw [hg, if_neg (fun e => hne e.symm), if_pos rfl]
  have hnn2 : names L' nn g = true := names_iff.2 ⟨nn, _, hnew, rfl, rfl, by show kind ≠ 0; rcases hkind with h | h <;> rw [h] <;> decide⟩
  refine isSp_mk hr (fun i x' hx' => ?_) fun c hd => ?_
  · rw [hg] at hx'
    have hni := hn (i : Int)
    split at hx'
    · rename_i e1
      cases hx'
      subst e1
      rw [if_neg (by omega)] at hni
      obtain ⟨_, _, n1, n2, n3⟩ := ho i xc hc
      refine ⟨fun _ => ⟨hR, rfl⟩, fun _ e hem => ?_, fun h => ?_, fun h h0 => ?_, fun h => ?_⟩
      · have hem' : e ∈ xc.ents ++ [e2] := by rw [← he]; exact hem
        rcases List.mem_append.1 hem' with h | h
        · exact hnm _ _ (hall e (all_of hc h))
        · rw [List.mem_singleton.1 h, hto]
          exact hnn2
      · have h2 : xc.kind = 1 := h
        omega
      · have := n2 hk h0
        omega
      · have := n3 h
        omega
    · split at hx'
      · rename_i e1
        cases hx'
        subst e1
        rw [if_pos rfl, hz] at hni
        refine ⟨fun _ => ⟨Fo.right_0, rfl⟩, fun _ e hem => (by cases hem), fun h => ?_, fun h h0 => ?_, fun h => ?_⟩
        · show (nmv L' i : Int) = 1
          omega
        · omega
        · omega
      · rename_i e1
        rw [if_neg (by omega)] at hni
        obtain ⟨o1, o2, n1, n2, n3⟩ := ho i x' hx'
        refine ⟨o1, fun h e hem => hnm _ _ (o2 h e hem), fun h => ?_, fun h h0 => ?_, fun h => ?_⟩
        · have := n1 h
          omega
        · have := n2 h h0
          omega
        · have := n3 h
          omega
  · have hch : ∀ p c, Child L p c → Child L' p c := fun p c hpc => by
      obtain ⟨⟨x, hx, e, hem, hec⟩, hdc⟩ := child_iff.1 hpc
      obtain ⟨x', g1, _, _, g4⟩ := hkeep p x hx (by have := ents_dir h1 hx hem; omega)
      obtain ⟨y, hy, hky⟩ := dirAt_iff.1 hdc
      obtain ⟨y', b1, _, b3, _⟩ := hkeep c y hy (by omega)
      exact child_iff.2 ⟨⟨x', g1, e, g4 e hem, hec⟩, dirAt_iff.2 ⟨y', b1, by rw [b3]; exact hky⟩⟩
    obtain ⟨m, hm⟩ := isSp_reach hs (dirAt_iff.2 ⟨xc, hc, hk⟩)
    have hm' := anc_mono hch m 0 kc hm
    by_cases hcn : c = nn
    · subst hcn
      exact ⟨m + 1, kc, hm', child_iff.2 ⟨⟨filled xc es nx st, by rw [hg, if_pos rfl], e2, by show e2 ∈ es; rw [he]; simp, by rw [hto]⟩, hd⟩⟩
    · obtain ⟨x', hx', hk'⟩ := dirAt_iff.1 hd
      rw [hg, if_neg hcn] at hx'
      have hdc : dirAt L c = true := by
        split at hx'
        · rename_i e1
          subst e1
          exact dirAt_iff.2 ⟨xc, hc, hk⟩
        · exact dirAt_iff.2 ⟨x', hx', hk'⟩
      obtain ⟨d, ha⟩ := isSp_reach hs hdc
      exact ⟨d, anc_mono hch d 0 c ha⟩
end Sp
end Go.Proofs.YtacghcoikekfeaaGreat
/- Sta1 -/
namespace Go.Proofs.YtacghcoikekfeaaGreat
open It
set_option maxRecDepth 100000
set_option maxRecDepth 100000
namespace Sp
theorem st_nonneg {L : List Ino} {st : Int} (h : top L ≤ st ∧ st ≤ 1099511627776) : 0 ≤ st ∧ st ≤ 1099511627776 := ⟨Int.le_trans (top_nonneg _) h.1, h.2⟩
theorem find_same {L : List Ino} {a b : Int} {k : Nat} {x : Ino} (hf : findErr L a b = 0) (ha : a = k) (hx : L[k]? = some x) : findI L a b = x := by
  unfold findI
  rw [if_pos hf, ha, show ((k : Int)).toNat = k by omega, hx]
  rfl
theorem count_snoc {l : List En} {e : En} {k : Nat} (h : e.2.2.1 = k) (i : Int) : ((l ++ [e]).countP (toI i) : Int) = l.countP (toI i) + (if i = k then 1 else 0) := by
  rw [List.countP_append, List.countP_cons, List.countP_nil]
  by_cases hi : i = k
  · rw [if_pos hi, if_pos (by simp [toI, h, hi])]
    omega
  · rw [if_neg hi, if_neg (by simp [toI, h]; omega)]
    omega
theorem count_cut {l : List En} {j : Nat} {e : En} {k : Nat} (hj : l[j]? = some e) (h : e.2.2.1 = k) (i : Int) : ((l.eraseIdx j).countP (toI i) : Int) = l.countP (toI i) + (if i = k then -1 else 0) := by
  have c := cerase (toI i) l j e hj
  by_cases hi : i = k
  · rw [if_pos (by simp [toI, h, hi])] at c
    rw [if_pos hi]
    omega
  · rw [if_neg (by simp [toI, h]; omega)] at c
    rw [if_neg hi]
    omega
theorem cut_sup {l : List En} {j : Nat} {e : En} {k : Nat} (hj : l[j]? = some e) (h : e.2.2.1 = k) : ∀ x ∈ l, x ∈ l.eraseIdx j ∨ x.2.2.1 = k := fun x hx => by
  rcases erase_sup hj x hx with h1 | h1
  · exact .inl h1
  · exact .inr (by rw [h1]; exact h)
theorem add_right {l : List Ent} {nx : Int} {s : ByteArray} {no g : Int} (h : Fo.addErr l nx s no g = 0) : Fo.Right (l ++ [(s, nx + 1, no, g)]) (nx + 1) := by
  obtain ⟨hR, hok, hHo, hat, hnx⟩ := Fo.add_zero h
  exact Fo.right_add hR hok hHo hat (by have := hR.1.2; omega)
theorem link_stays {L : List Ino} {a b c d st : Int} {s : ByteArray} (h : linkE (chk isSp) L a b c d s st = 0) : isSp (linkT (chk isSp) L a b c d s st) = true := by
  unfold linkT
  rw [if_pos h]
  unfold linkE at h
  by_cases hl : linkErr (chk isSp) L a b c d s st = 0
  · rw [if_pos hl] at h
    obtain ⟨⟨hc0, hst⟩, hfa, hka, hla, hdc⟩ := linkErr_zero hl
    obtain ⟨-, -, hlen, -⟩ := isSp_means _ hc0
    have hs := chk_zero hc0
    obtain ⟨ka, xa, ha, hxa, hga, hka0, hia, hr⟩ := find_get hfa
    obtain ⟨kc, xc, hc, hxc, hgc, hkc, hec, hnc, hfc, -⟩ := dir_get hdc
    have hic := find_same hfc hc hxc
    rw [hec, hnc] at h
    rw [hia] at hka hla
    have hatt := At.right_iff.1 (attr_of hr (List.mem_of_getElem? hxa))
    unfold At.rightP at hatt
    have hk1 : xa.kind = 1 := by omega
    have hlc := hlen xc (List.mem_of_getElem? hxc)
    rw [hia, hic, ha, hc, show ((ka : Int)).toNat = ka by omega, show ((kc : Int)).toNat = kc by omega]
    rw [ha] at h
    refine stays_file hs hxc hkc hxa hk1 (st_nonneg hst) (add_right h) (by rw [List.length_append, List.length_singleton]; omega) ⟨by omega, by omega⟩ (count_snoc rfl) (fun e he => ?_) (fun e he => .inl (List.mem_append_left _ he))
    rcases List.mem_append.1 he with h1 | h1
    · exact .inl h1
    · exact .inr (by rw [List.mem_singleton.1 h1, ← hga])
  · rw [if_neg hl] at h
    exact absurd h hl
theorem unlink_stays {L : List Ino} {a b st : Int} {s : ByteArray} (h : ulE (chk isSp) L a b s st = 0) : isSp (ulT (chk isSp) L a b s st) = true := by
  unfold ulT
  rw [if_pos h]
  unfold ulE at h
  by_cases hl : toErr (chk isSp) L st a b s = 0
  · rw [if_pos hl] at h
    obtain ⟨kc, xc, j, e, kt, xt, ha, hxc, hgc, hkc, hfc, hff, hp, hj, hH, hek, hk0, hxt, hgt, hkt0, hlt, hft, hit, hic, hr, hst, hlc⟩ := to_zero isSp_means hl
    have hs : isSp L = true := by
      unfold toErr at hl
      by_cases h2 : stErr (chk isSp) L st = 0
      · exact chk_zero (stErr_zero h2).1
      · rw [if_neg h2] at hl
        exact absurd hl h2
    rw [hH, hit] at h
    rw [hH, hit]
    have hk2 : xt.kind ≠ 2 := fun h2 => by
      rw [if_pos h2] at h
      exact absurd h (by decide)
    have hatt := At.right_iff.1 (attr_of hr (List.mem_of_getElem? hxt))
    unfold At.rightP at hatt
    have hk1 : xt.kind = 1 := by omega
    unfold lessDir
    rw [hic, hp, ha, hek, show ((kc : Int)).toNat = kc by omega, show ((j : Int)).toNat = j by omega, show ((kt : Int)).toNat = kt by omega]
    have hR := ((isSp_ok hs kc xc hxc).1 hkc).1
    exact stays_file hs hxc hkc hxt hk1 (st_nonneg hst) (Fo.right_cut hR j) (Nat.le_trans (List.length_eraseIdx_le ..) (by omega)) ⟨by omega, by omega⟩ (count_cut hj hek) (fun e he => .inl (List.mem_of_mem_eraseIdx he)) (cut_sup hj hek)
  · rw [if_neg hl] at h
    exact absurd h hl
theorem rmdir_stays {L : List Ino} {a b st : Int} {s : ByteArray} (h : rmE (chk isSp) L a b s st = 0) : isSp (rmT (chk isSp) L a b s st) = true := by
  unfold rmT
  rw [if_pos h]
  unfold rmE at h
  by_cases hl : toErr (chk isSp) L st a b s = 0
  · rw [if_pos hl] at h
    obtain ⟨kc, xc, j, e, kt, xt, ha, hxc, hgc, hkc, hfc, hff, hp, hj, hH, hek, hk0, hxt, hgt, hkt0, hlt, hft, hit, hic, hr, hst, hlc⟩ := to_zero isSp_means hl
    have hs : isSp L = true := by
      unfold toErr at hl
      by_cases h2 : stErr (chk isSp) L st = 0
      · exact chk_zero (stErr_zero h2).1
      · rw [if_neg h2] at hl
        exact absurd hl h2
    rw [hH, hit] at h
    rw [hH]
    by_cases hk2 : xt.kind = 2
    · rw [if_pos hk2] at h
      by_cases hen : xt.ents = []
      · unfold lessDir
        rw [hic, hp, ha, hek, ← hgt, show ((kc : Int)).toNat = kc by omega, show ((j : Int)).toNat = j by omega, show ((kt : Int)).toNat = kt by omega]
        have hR := ((isSp_ok hs kc xc hxc).1 hkc).1
        have hne : kc ≠ kt := by
          rintro rfl
          rw [hxc] at hxt
          cases hxt
          rw [hen] at hj
          simp at hj
        exact stays_rm hs hxc hkc hxt hk2 hen hk0 hne (st_nonneg hst) (Fo.right_cut hR j) (Nat.le_trans (List.length_eraseIdx_le ..) (by omega)) (count_cut hj hek) (fun e he => List.mem_of_mem_eraseIdx he) (cut_sup hj hek)
      · rw [if_neg hen] at h
        exact absurd h (by decide)
    · rw [if_neg hk2] at h
      exact absurd h (by decide)
  · rw [if_neg hl] at h
    exact absurd h hl
theorem make_stays {L : List Ino} {a b kind st : Int} {s : ByteArray} (h : mkE (chk isSp) L a b s kind st = 0) : isSp (mkT (chk isSp) L a b s kind st) = true := by
  unfold mkT
  rw [if_pos h]
  unfold mkE at h
  by_cases hl : makeErr (chk isSp) L a b s kind st = 0
  · rw [if_pos hl] at h
    obtain ⟨⟨hc0, hst⟩, hkind, hdc⟩ := makeErr_zero hl
    by_cases hm : It.makeErr L kind st = 0
    · rw [if_pos hm] at h
      obtain ⟨-, -, hlen, -⟩ := isSp_means _ hc0
      have hs := chk_zero hc0
      obtain ⟨hr, -, hn24, e1, e2⟩ := make_next hm
      obtain ⟨hk1, -⟩ := make_keep hm
      obtain ⟨kc, xc, hc, hxc, hgc, hkc, hec, hnc, hfc, -⟩ := dir_get hdc
      have hic := find_same hfc hc hxc
      obtain ⟨hn1, -⟩ := next_good hr
      have hlc := hlen xc (List.mem_of_getElem? hxc)
      have hnn : ∃ nn : Nat, (next L).1 = nn ∧ ((∃ x0, L[nn]? = some x0 ∧ x0.kind = 0) ∨ nn = L.length) := by
        rcases next_cases L with ⟨j, y, hy, hyk, -, e⟩ | e
        · exact ⟨j, by rw [e], .inl ⟨y, hy, hyk⟩⟩
        · exact ⟨L.length, by rw [e], .inr rfl⟩
      obtain ⟨nn, hnn1, hnn2⟩ := hnn
      rw [hec, hnc, e2] at h
      rw [e1] at hk1 ⊢
      rw [hic, e2, hc]
      rw [hnn1, show ((nn : Int)).toNat = nn by omega] at hk1
      rw [hnn1, show ((nn : Int)).toNat = nn by omega, show ((kc : Int)).toNat = kc by omega]
      rw [hnn1] at h
      exact stays_mk hs hxc hkc hkind hnn2 (by omega) hk1 (st_nonneg hst) (add_right h) (by rw [List.length_append, List.length_singleton]; omega) rfl rfl
    · rw [if_neg hm] at h
      exact absurd h hm
  · rw [if_neg hl] at h
    exact absurd h hl
theorem rename_stays {L : List Ino} {a b c d st : Int} {s s2 : ByteArray} (h : rnE (chk isSp) insB L a b s c d s2 st = 0) : isSp (rnT (chk isSp) insB L a b s c d s2 st) = true := by
  unfold rnT
  rw [if_pos h]
  unfold rnE at h
  by_cases hl : toErr (chk isSp) L st a b s = 0
  · rw [if_pos hl] at h
    obtain ⟨kc, xc, j, e, kt, xt, ha, hxc, hgc, hkc, hfc, hff, hp, hj, hH, hek, hk0, hxt, hgt, hkt0, hlt, hft, hit, hic, hr, hst, hlc⟩ := to_zero isSp_means hl
    have hs0 : chk isSp L = 0 := by
      unfold toErr at hl
      by_cases h2 : stErr (chk isSp) L st = 0
      · exact (stErr_zero h2).1
      · rw [if_neg h2] at hl
        exact absurd hl h2
    have hs := chk_zero hs0
    obtain ⟨-, -, hlen, -⟩ := isSp_means _ hs0
    rw [hH] at h
    rw [hH]
    by_cases hm : moveErr insB L e.2.2.1 c d s2 = 0
    · rw [if_pos hm] at h
      have hdd := moveErr_zero hm
      obtain ⟨kd, xd, hd, hxd, hgd, hkd, -, -, hfd, -⟩ := dir_get hdd
      have hin : dirAt L kt = true → ¬ ∃ d, Anc L d kt kd := fun hdt hex => by
        have hi := (insB_iff hs hdt).2 hex
        unfold moveErr at hm
        by_cases hq : (nameErr L c d s2 = 0 ∨ nameErr L c d s2 = 403) ∧ insB L e.2.2.1 c = true
        · rw [if_pos hq] at hm
          exact absurd hm (by decide)
        · rw [if_neg hq] at hm
          exact hq ⟨.inl hm, by rw [hek, hd]; exact hi⟩
      have hR := ((isSp_ok hs kc xc hxc).1 hkc).1
      have hcut := Fo.right_cut hR j
      have hlcut : (xc.ents.eraseIdx j).length ≤ 1536 := Nat.le_trans (List.length_eraseIdx_le ..) hlc
      have eL : lessDir L a b s st = L.set kc (filled xc (xc.ents.eraseIdx j) xc.next st) := by
        unfold lessDir
        rw [hic, hp, ha, show ((kc : Int)).toNat = kc by omega, show ((j : Int)).toNat = j by omega]
      have r1 : It.right (L.set kc (filled xc (xc.ents.eraseIdx j) xc.next st)) = true := right_set hr hxc (one_filled ((It.right_iff.1 hr).2.2 xc (List.mem_of_getElem? hxc)) hkc (st_nonneg hst) (by omega) (nx := xc.next)) rfl
      obtain ⟨x1, hx1, hg1, hk1, hl1, hsub, -⟩ := mid hxc hkc hlcut (fun e he => List.mem_of_mem_eraseIdx he) hst hxd hkd (hlen xd (List.mem_of_getElem? hxd)) r1
      have eM : midI L a b s st c = x1 := by
        unfold midI
        rw [eL, hd, show ((kd : Int)).toNat = kd by omega, hx1]
        rfl
      rw [eM] at h
      rw [eM, eL, hd, show ((kd : Int)).toNat = kd by omega]
      have hnt : names L e.2.2.1 e.2.2.2 = true := ok_named hr (isSp_ok hs) e (all_of hxc (List.mem_of_getElem? hj))
      exact stays_rn (e2 := (s2, x1.next + 1, e.2.2.1, e.2.2.2)) hs hxc hkc hx1 hk1 (st_nonneg hst) hcut (by omega) (add_right h) (by rw [List.length_append, List.length_singleton]; omega) rfl hek hnt (count_cut hj hek) (fun e he => List.mem_of_mem_eraseIdx he) (cut_sup hj hek) hin
    · rw [if_neg hm] at h
      exact absurd h hm
  · rw [if_neg hl] at h
    exact absurd h hl
/-- Names of a space can be. -/
theorem okN_sp {L : List Rw} (h : isSp (pl L) = true) : okN L := fun x hx e he => by
  obtain ⟨i, hi⟩ := List.mem_iff_getElem?.1 hx
  have hpi : (pl L)[i]? = some x.i := by rw [List.getElem?_map, hi]; rfl
  have h32 := ((isSp_tree h).inr i e (mem_entsAt.2 ⟨x.i, hpi, he⟩)).2.2.1
  exact Nat.le_trans h32 (by decide)
/-- What tells an error tells no table. -/
theorem link_none {C : List Ino → Int} {L : List Ino} {a b c d st : Int} {s : ByteArray} (h : linkE C L a b c d s st ≠ 0) : linkT C L a b c d s st = [] := by unfold linkT; rw [if_neg h]
theorem unlink_none {C : List Ino → Int} {L : List Ino} {a b st : Int} {s : ByteArray} (h : ulE C L a b s st ≠ 0) : ulT C L a b s st = [] := by unfold ulT; rw [if_neg h]
theorem rmdir_none {C : List Ino → Int} {L : List Ino} {a b st : Int} {s : ByteArray} (h : rmE C L a b s st ≠ 0) : rmT C L a b s st = [] := by unfold rmT; rw [if_neg h]
theorem make_none {C : List Ino → Int} {L : List Ino} {a b kind st : Int} {s : ByteArray} (h : mkE C L a b s kind st ≠ 0) : mkT C L a b s kind st = [] := by unfold mkT; rw [if_neg h]
theorem rename_none {C : List Ino → Int} {I : List Ino → Int → Int → Bool} {L : List Ino} {a b c d st : Int} {s s2 : ByteArray} (h : rnE C I L a b s c d s2 st ≠ 0) : rnT C I L a b s c d s2 st = [] := by unfold rnT; rw [if_neg h]
end Sp
end Go.Proofs.YtacghcoikekfeaaGreat
/- SStp -/
namespace Go.Proofs.YtacghcoikekfeaaGreat
open Go.ChangeShapes Go.WideShapes Go.ChangeAt Go.RowKit Go.Deep It
set_option maxRecDepth 100000
set_option maxRecDepth 100000
/-- A step: what, the folder's place, the other's, the names. -/
abbrev Stp := Int × Int × Int × ByteArray × ByteArray
def EQ : Enc Stp := ⟨5, fun x => [.int .i64 x.1, .int .i64 x.2.1, .int .i64 x.2.2.1, .string x.2.2.2.1, .string x.2.2.2.2], fun _ => rfl, fun x u hu => by
  simp at hu
  rcases hu with rfl | rfl | rfl | rfl | rfl <;> rfl⟩
abbrev VQ (q d t : Int) (s s2 : ByteArray) : Value := .agg #[.int .i64 q, .int .i64 d, .int .i64 t, .string s, .string s2]
abbrev BQ (q d t : Int) (s s2 : ByteArray) : Obj := .cells #[.int .i64 q, .int .i64 d, .int .i64 t, .string s, .string s2] 57
theorem stp_of {w : World} {A : Nat} {q d t : Int} {s s2 : ByteArray} (h : w.heap[A]? = some (BQ q d t s s2)) :
    w.cell? ⟨A, 0, none⟩ = some (.int .i64 q) ∧ w.cell? ⟨A, 1, none⟩ = some (.int .i64 d) ∧ w.cell? ⟨A, 2, none⟩ = some (.int .i64 t) ∧ w.cell? ⟨A, 3, none⟩ = some (.string s) ∧ w.cell? ⟨A, 4, none⟩ = some (.string s2) := by
  refine ⟨?_, ?_, ?_, ?_, ?_⟩ <;> simp [World.cell?, h]
namespace Sp
def pickH (L : List Ino) (n : Int) : Int × Int := if n < 0 ∨ ((used L).length : Int) ≤ n then (0, 0) else ((used L)[n.toNat]?).getD (0, 0)
noncomputable def doE (L : List Ino) (q d t : Int) (s s2 : ByteArray) (st : Int) : Int :=
  if q = 0 ∨ q = 1 then mkE (chk isSp) L (pickH L d).1 (pickH L d).2 s (q + 1) st
  else if q = 2 then linkE (chk isSp) L (pickH L t).1 (pickH L t).2 (pickH L d).1 (pickH L d).2 s st
  else if q = 3 then ulE (chk isSp) L (pickH L d).1 (pickH L d).2 s st
  else if q = 4 then rmE (chk isSp) L (pickH L d).1 (pickH L d).2 s st
  else rnE (chk isSp) insB L (pickH L d).1 (pickH L d).2 s (pickH L t).1 (pickH L t).2 s2 st
noncomputable def doT (L : List Ino) (q d t : Int) (s s2 : ByteArray) (st : Int) : List Ino :=
  if q = 0 ∨ q = 1 then mkT (chk isSp) L (pickH L d).1 (pickH L d).2 s (q + 1) st
  else if q = 2 then linkT (chk isSp) L (pickH L t).1 (pickH L t).2 (pickH L d).1 (pickH L d).2 s st
  else if q = 3 then ulT (chk isSp) L (pickH L d).1 (pickH L d).2 s st
  else if q = 4 then rmT (chk isSp) L (pickH L d).1 (pickH L d).2 s st
  else rnT (chk isSp) insB L (pickH L d).1 (pickH L d).2 s (pickH L t).1 (pickH L t).2 s2 st
theorem do_stays {L : List Ino} {q d t st : Int} {s s2 : ByteArray} (h : doE L q d t s s2 st = 0) : isSp (doT L q d t s s2 st) = true := by
  unfold doE at h
  unfold doT
  split
  · rename_i h1
    rw [if_pos h1] at h
    exact make_stays h
  · rename_i h1
    rw [if_neg h1] at h
    split
    · rename_i h2
      rw [if_pos h2] at h
      exact link_stays h
    · rename_i h2
      rw [if_neg h2] at h
      split
      · rename_i h3
        rw [if_pos h3] at h
        exact unlink_stays h
      · rename_i h3
        rw [if_neg h3] at h
        split
        · rename_i h4
          rw [if_pos h4] at h
          exact rmdir_stays h
        · rename_i h4
          rw [if_neg h4] at h
          exact rename_stays h
theorem do_none {L : List Ino} {q d t st : Int} {s s2 : ByteArray} (h : doE L q d t s s2 st ≠ 0) : doT L q d t s s2 st = [] := by
  unfold doE at h
  unfold doT
  split
  · rename_i h1
    rw [if_pos h1] at h
    exact make_none h
  · rename_i h1
    rw [if_neg h1] at h
    split
    · rename_i h2
      rw [if_pos h2] at h
      exact link_none h
    · rename_i h2
      rw [if_neg h2] at h
      split
      · rename_i h3
        rw [if_pos h3] at h
        exact unlink_none h
      · rename_i h3
        rw [if_neg h3] at h
        split
        · rename_i h4
          rw [if_pos h4] at h
          exact rmdir_none h
        · rename_i h4
          rw [if_neg h4] at h
          exact rename_none h
end Sp
set_option maxHeartbeats 2000000 in
theorem pick_any {S : Nat → Prop} (v : Value) (L : List Rw) (n : Int) (w : World) (hv : TabAt S w v L) (hL : L.length ≤ 1466015503701) :
    Calls Tryz.prog 63 #[v, .int .i64 n] w fun e w' => e = .returned (.agg #[.int .i64 (Sp.pickH (pl L) n).1, .int .i64 (Sp.pickH (pl L) n).2]) ∧ Below w.heap.size w w' := by
  obtain ⟨W, hW⟩ : ∃ W, W = w.alloc (BH 0 0) := ⟨_, rfl⟩
  have HB0 : Hid (Below w.heap.size w W) := by show Below w.heap.size w W; rw [hW]; exact (Below.refl _ w).alloc (Nat.le_refl _) _
  have HA0 : Hid (W.heap[w.heap.size]? = some (BH 0 0)) := by show W.heap[w.heap.size]? = _; rw [hW]; exact heap_alloc_new _ _
  have HV : Hid (TabAt S W v L) := hv.up HB0.out
  obtain ⟨ao, cap, rfl, -, -⟩ := hv.open
  clear hv
  obtain ⟨⟨pa, pb⟩, hp⟩ : ∃ p, Sp.pickH (pl L) n = p := ⟨_, rfl⟩
  rw [hp]
  have HP : Hid (Sp.pickH (pl L) n = (pa, pb)) := hp
  clear hp
  go_enter Tryz.func63, Tryz.ntmps63
  go_wp2_with fail
  rw [← hW]
  clear hW
  refine (used_any _ L _ HV.out hL).mono ?_
  rintro e w2 ⟨u2, rfl, hu2, hb2⟩
  obtain ⟨p2, z2, rfl, hm2, hx2⟩ := hu2.open
  have HB2 : Hid (Below w.heap.size w w2) := HB0.out.trans (hb2.mono HB0.out.size)
  have HA2 : Hid (w2.heap[w.heap.size]? = some (BH 0 0)) := (hb2.block _ (Array.getElem?_eq_some_iff.1 HA0.out).1).trans HA0.out
  have hla := (Array.getElem?_eq_some_iff.1 HA2.out).1
  obtain ⟨U, hU⟩ : ∃ U, used (pl L) = U := ⟨_, rfl⟩
  obtain ⟨m, hm⟩ : ∃ m, U.length = m := ⟨_, rfl⟩
  have hpp := HP.out
  unfold Sp.pickH at hpp
  rw [hU] at hm2 hx2 hpp ⊢
  rw [hm] at hm2 hpp ⊢
  unfold maxLen at hm2
  obtain ⟨⟨f0, f1⟩, ff⟩ := two_of HA2.out
  clear hb2 hu2
  by_cases h0 : n < 0
  · rw [if_pos (.inl h0)] at hpp
    obtain ⟨rfl, rfl⟩ : 0 = pa ∧ 0 = pb := Prod.mk.inj hpp
    go_wp2
    (try simp only [Exit.inBlock, Exit.then])
    refine bodyPost_ret (v := .agg #[.int .i64 0, .int .i64 0]) ?_ rfl ⟨rfl, ?_⟩
    · rw [results_cell1 rfl]
      go_simp
    · exact Below.setCell (Below.setCell HB2.out (by simp) _) (by simp) _
  by_cases h1 : (m : Int) ≤ n
  · rw [if_pos (.inr h1)] at hpp
    obtain ⟨rfl, rfl⟩ : 0 = pa ∧ 0 = pb := Prod.mk.inj hpp
    go_wp2
    (try simp only [Exit.inBlock, Exit.then])
    refine bodyPost_ret (v := .agg #[.int .i64 0, .int .i64 0]) ?_ rfl ⟨rfl, ?_⟩
    · rw [results_cell1 rfl]
      go_simp
    · exact Below.setCell (Below.setCell HB2.out (by simp) _) (by simp) _
  · rw [if_neg (by omega)] at hpp
    obtain ⟨k, rfl⟩ : ∃ k : Nat, n = k := ⟨n.toNat, by omega⟩
    have hk : k < m := by omega
    obtain ⟨x, hxk⟩ : ∃ x, U[k]? = some x := ⟨_, List.getElem?_eq_getElem (by omega)⟩
    obtain ⟨b, off, rfl, -, hB, hc⟩ := hx2 k x hxk
    obtain ⟨x0, x1⟩ := x
    have c0 : w2.cell? ⟨b, off + k * 2, none⟩ = some (.int .i64 x0) := hc 0 _ rfl
    have c1 : w2.cell? ⟨b, off + k * 2 + 1, none⟩ = some (.int .i64 x1) := hc 1 _ rfl
    rw [show ((k : Int)).toNat = k by omega, hxk] at hpp
    obtain ⟨rfl, rfl⟩ : x0 = pa ∧ x1 = pb := Prod.mk.inj hpp
    clear hc hx2
    go_wp2
    (try simp only [Exit.inBlock, Exit.then])
    refine bodyPost_ret (v := .agg #[.int .i64 x0, .int .i64 x1]) ?_ rfl ⟨rfl, ?_⟩
    · rw [results_cell1 rfl]
      go_simp
    · exact Below.setCell (Below.setCell HB2.out (by simp) _) (by simp) _
set_option maxHeartbeats 8000000 in
theorem sdo_any {S : Nat → Prop} (v : Value) (L : List Rw) (q d t : Int) (s s2 : ByteArray) (st : Int) (w : World) (hv : TabAt S w v L) (hok : Sp.okN L) (hL : L.length ≤ 1466015503701) (hs : s.size ≤ maxLen) (hs2 : s2.size ≤ maxLen) :
    Calls Tryz.prog 29 #[v, VQ q d t s s2, .int .i64 st] w fun e w' => ∃ u L', e = .returned (.tuple #[u, .int .i64 (Sp.doE (pl L) q d t s s2 st)]) ∧ TabW w' u L' ∧ pl L' = Sp.doT (pl L) q d t s s2 st ∧ Below w.heap.size w w' := by
  have HV : Hid (TabAt S w v L) := hv
  have HOK : Hid (Sp.okN L) := hok
  have HLL : Hid (L.length ≤ 1466015503701) := hL
  have HSM : Hid (s.size ≤ maxLen ∧ s2.size ≤ maxLen) := ⟨hs, hs2⟩
  obtain ⟨ao, cap, rfl, -, -⟩ := hv.open
  obtain ⟨n, hn⟩ : ∃ n, L.length = n := ⟨_, rfl⟩
  rw [hn] at HV ⊢
  clear hv hok hn hs hs2 hL
  obtain ⟨W0, hW0⟩ : ∃ W0, W0 = w.alloc (BQ q d t s s2) := ⟨_, rfl⟩
  have HB0 : Hid (Below w.heap.size w W0) := by show Below _ _ _; rw [hW0]; exact (Below.refl _ _).alloc (Nat.le_refl _) _
  have HX0 : Hid (W0.heap[w.heap.size]? = some (BQ q d t s s2)) := by show W0.heap[w.heap.size]? = _; rw [hW0]; exact heap_alloc_new _ _
  obtain ⟨⟨da, db⟩, hd⟩ : ∃ p, Sp.pickH (pl L) d = p := ⟨_, rfl⟩
  obtain ⟨⟨ta, tb⟩, ht⟩ : ∃ p, Sp.pickH (pl L) t = p := ⟨_, rfl⟩
  obtain ⟨f0, f1, f2, f3, f4⟩ := stp_of HX0.out
  have hlx0 := (Array.getElem?_eq_some_iff.1 HX0.out).1
  have hE : Sp.doE (pl L) q d t s s2 st = if q = 0 ∨ q = 1 then Sp.mkE (Sp.chk Sp.isSp) (pl L) da db s (q + 1) st else if q = 2 then Sp.linkE (Sp.chk Sp.isSp) (pl L) ta tb da db s st else if q = 3 then Sp.ulE (Sp.chk Sp.isSp) (pl L) da db s st else if q = 4 then Sp.rmE (Sp.chk Sp.isSp) (pl L) da db s st else Sp.rnE (Sp.chk Sp.isSp) Sp.insB (pl L) da db s ta tb s2 st := by
    unfold Sp.doE
    rw [hd, ht]
  have hT : Sp.doT (pl L) q d t s s2 st = if q = 0 ∨ q = 1 then Sp.mkT (Sp.chk Sp.isSp) (pl L) da db s (q + 1) st else if q = 2 then Sp.linkT (Sp.chk Sp.isSp) (pl L) ta tb da db s st else if q = 3 then Sp.ulT (Sp.chk Sp.isSp) (pl L) da db s st else if q = 4 then Sp.rmT (Sp.chk Sp.isSp) (pl L) da db s st else Sp.rnT (Sp.chk Sp.isSp) Sp.insB (pl L) da db s ta tb s2 st := by
    unfold Sp.doT
    rw [hd, ht]
  obtain ⟨E, hEE⟩ : ∃ E, Sp.doE (pl L) q d t s s2 st = E := ⟨_, rfl⟩
  obtain ⟨T, hTT⟩ : ∃ T, Sp.doT (pl L) q d t s s2 st = T := ⟨_, rfl⟩
  rw [hEE, hTT]
  have HE := hE.symm.trans hEE
  have HTT := hT.symm.trans hTT
  clear hE hT hEE hTT
  have HD : Hid (Sp.pickH (pl L) d = (da, db)) := hd
  have HT : Hid (Sp.pickH (pl L) t = (ta, tb)) := ht
  clear hd ht
  go_enter Tryz.func29, Tryz.ntmps29
  go_wp2_with fail
  rw [← hW0]
  clear hW0 f0 f1 f2 f3 f4
  refine (pick_any _ L d _ (HV.out.up HB0.out) HLL.out).mono ?_
  rintro e w1 ⟨rfl, hb1⟩
  rw [HD.out]
  obtain ⟨W1, hW1⟩ : ∃ W1, W1 = w1.alloc (BH da db) := ⟨_, rfl⟩
  have bw1 : Below w1.heap.size w1 W1 := by rw [hW1]; exact (Below.refl _ _).alloc (Nat.le_refl _) _
  have bn1 : Below W0.heap.size W0 W1 := hb1.trans (bw1.mono hb1.size)
  have HB1 : Hid (Below w.heap.size w W1) := HB0.out.trans (bn1.mono HB0.out.size)
  have HY1 : Hid (w1.heap[w.heap.size]? = some (BQ q d t s s2)) := (hb1.block _ hlx0).trans HX0.out
  have HX1 : Hid (W1.heap[w.heap.size]? = some (BQ q d t s s2)) := (bn1.block _ hlx0).trans HX0.out
  have HA1 : Hid (W1.heap[w1.heap.size]? = some (BH da db)) := by show W1.heap[w1.heap.size]? = _; rw [hW1]; exact heap_alloc_new _ _
  have hlx1 := (Array.getElem?_eq_some_iff.1 HX1.out).1
  have hly1 := (Array.getElem?_eq_some_iff.1 HY1.out).1
  have hla1 := (Array.getElem?_eq_some_iff.1 HA1.out).1
  obtain ⟨f0, f1, f2, f3, f4⟩ := stp_of HY1.out
  clear hb1 bw1 bn1
  go_wp2_with fail
  rw [← hW1]
  clear hW1 f0 f1 f2 f3 f4
  refine (pick_any _ L t _ (HV.out.up HB1.out) HLL.out).mono ?_
  rintro e w2 ⟨rfl, hb2⟩
  rw [HT.out]
  obtain ⟨W2, hW2⟩ : ∃ W2, W2 = w2.alloc (BH ta tb) := ⟨_, rfl⟩
  have bw2 : Below w2.heap.size w2 W2 := by rw [hW2]; exact (Below.refl _ _).alloc (Nat.le_refl _) _
  have bn2 : Below W1.heap.size W1 W2 := hb2.trans (bw2.mono hb2.size)
  have HB2 : Hid (Below w.heap.size w W2) := HB1.out.trans (bn2.mono HB1.out.size)
  have HY2 : Hid (w2.heap[w.heap.size]? = some (BQ q d t s s2)) := (hb2.block _ hlx1).trans HX1.out
  have HX2 : Hid (W2.heap[w.heap.size]? = some (BQ q d t s s2)) := (bn2.block _ hlx1).trans HX1.out
  have HAY2 : Hid (w2.heap[w1.heap.size]? = some (BH da db)) := (hb2.block _ hla1).trans HA1.out
  have HA2 : Hid (W2.heap[w1.heap.size]? = some (BH da db)) := (bn2.block _ hla1).trans HA1.out
  have HC2 : Hid (W2.heap[w2.heap.size]? = some (BH ta tb)) := by show W2.heap[w2.heap.size]? = _; rw [hW2]; exact heap_alloc_new _ _
  have hly2 := (Array.getElem?_eq_some_iff.1 HY2.out).1
  have hla2 := (Array.getElem?_eq_some_iff.1 HAY2.out).1
  obtain ⟨f0, f1, f2, f3, f4⟩ := stp_of HY2.out
  obtain ⟨⟨g0, g1⟩, gg⟩ := two_of HAY2.out
  clear hb2 bw2 bn2 gg
  by_cases h0 : q = 0
  · subst h0
    rw [if_pos (.inl rfl), show (0 : Int) + 1 = 1 from rfl] at HE HTT
    go_wp2_with fail
    rw [← hW2]
    refine (smake_any scheck_any isSp_means _ L da db s 1 st _ (HV.out.up HB2.out) HOK.out HSM.out.1).mono ?_
    rintro e w3 ⟨u3, L3, rfl, ht3, hp3, hb3⟩
    obtain ⟨p3, z3, hu3, -, -⟩ := ht3.open
    obtain ⟨m3, hm3⟩ : ∃ m, L3.length = m := ⟨_, rfl⟩
    rw [hm3] at hu3
    subst hu3
    rw [HE]
    have hp4 := hp3.trans HTT
    obtain ⟨⟨qa, qb⟩, hq⟩ : ∃ y, Sp.mkH (Sp.chk Sp.isSp) (pl L) da db s 1 st = y := ⟨_, rfl⟩
    rw [hq]
    have HF : Hid (TabW (w3.alloc (BH qa qb)) (.slice p3 m3 z3) L3 ∧ Below w.heap.size w (w3.alloc (BH qa qb))) := ⟨(tab_wide ht3).up ((Below.refl _ _).alloc (Nat.le_refl _) _), (HB2.out.trans (hb3.mono HB2.out.size)).alloc (Nat.le_trans HB2.out.size hb3.size) _⟩
    clear ht3 hm3 hb3
    go_wp2
    (try simp only [Exit.inBlock, Exit.then])
    refine bodyPost_ret (v := .tuple #[.slice p3 m3 z3, .int .i64 E]) (by simp [results, Tryz.results29, go_sem]) rfl ?_
    exact ⟨_, L3, rfl, HF.out.1, hp4, HF.out.2⟩
  by_cases h1 : q = 1
  · subst h1
    rw [if_pos (.inr rfl), show (1 : Int) + 1 = 2 from rfl] at HE HTT
    go_wp2_with fail
    rw [← hW2]
    refine (smake_any scheck_any isSp_means _ L da db s 2 st _ (HV.out.up HB2.out) HOK.out HSM.out.1).mono ?_
    rintro e w3 ⟨u3, L3, rfl, ht3, hp3, hb3⟩
    obtain ⟨p3, z3, hu3, -, -⟩ := ht3.open
    obtain ⟨m3, hm3⟩ : ∃ m, L3.length = m := ⟨_, rfl⟩
    rw [hm3] at hu3
    subst hu3
    rw [HE]
    have hp4 := hp3.trans HTT
    obtain ⟨⟨qa, qb⟩, hq⟩ : ∃ y, Sp.mkH (Sp.chk Sp.isSp) (pl L) da db s 2 st = y := ⟨_, rfl⟩
    rw [hq]
    have HF : Hid (TabW (w3.alloc (BH qa qb)) (.slice p3 m3 z3) L3 ∧ Below w.heap.size w (w3.alloc (BH qa qb))) := ⟨(tab_wide ht3).up ((Below.refl _ _).alloc (Nat.le_refl _) _), (HB2.out.trans (hb3.mono HB2.out.size)).alloc (Nat.le_trans HB2.out.size hb3.size) _⟩
    clear ht3 hm3 hb3
    go_wp2
    (try simp only [Exit.inBlock, Exit.then])
    refine bodyPost_ret (v := .tuple #[.slice p3 m3 z3, .int .i64 E]) (by simp [results, Tryz.results29, go_sem]) rfl ?_
    exact ⟨_, L3, rfl, HF.out.1, hp4, HF.out.2⟩
  rw [if_neg (by omega)] at HE HTT
  by_cases h2 : q = 2
  · subst h2
    rw [if_pos rfl] at HE HTT
    go_wp2_with fail
    rw [← hW2]
    refine (slink_any scheck_any isSp_means _ L ta tb da db s st _ (HV.out.up HB2.out) HOK.out HSM.out.1).mono ?_
    rintro e w3 ⟨u3, L3, rfl, ht3, hp3, hb3⟩
    obtain ⟨p3, z3, hu3, -, -⟩ := ht3.open
    obtain ⟨m3, hm3⟩ : ∃ m, L3.length = m := ⟨_, rfl⟩
    rw [hm3] at hu3
    subst hu3
    rw [HE]
    have hp4 := hp3.trans HTT
    have HF : Hid (TabW w3 (.slice p3 m3 z3) L3 ∧ Below w.heap.size w w3) := ⟨tab_wide ht3, HB2.out.trans (hb3.mono HB2.out.size)⟩
    clear ht3 hm3 hb3
    go_wp2
    (try simp only [Exit.inBlock, Exit.then])
    refine bodyPost_ret (v := .tuple #[.slice p3 m3 z3, .int .i64 E]) (by simp [results, Tryz.results29, go_sem]) rfl ?_
    exact ⟨_, L3, rfl, HF.out.1, hp4, HF.out.2⟩
  rw [if_neg h2] at HE HTT
  by_cases h3 : q = 3
  · subst h3
    rw [if_pos rfl] at HE HTT
    go_wp2_with fail
    rw [← hW2]
    refine (sunlink_any scheck_any isSp_means _ L da db s st _ (HV.out.up HB2.out) HOK.out HSM.out.1).mono ?_
    rintro e w3 ⟨u3, L3, rfl, ht3, hp3, hb3⟩
    obtain ⟨p3, z3, hu3, -, -⟩ := ht3.open
    obtain ⟨m3, hm3⟩ : ∃ m, L3.length = m := ⟨_, rfl⟩
    rw [hm3] at hu3
    subst hu3
    rw [HE]
    have hp4 := hp3.trans HTT
    obtain ⟨⟨qa, qb⟩, hq⟩ : ∃ y, Sp.ulH (Sp.chk Sp.isSp) (pl L) da db s st = y := ⟨_, rfl⟩
    rw [hq]
    have HF : Hid (TabW (w3.alloc (BH qa qb)) (.slice p3 m3 z3) L3 ∧ Below w.heap.size w (w3.alloc (BH qa qb))) := ⟨(tab_wide ht3).up ((Below.refl _ _).alloc (Nat.le_refl _) _), (HB2.out.trans (hb3.mono HB2.out.size)).alloc (Nat.le_trans HB2.out.size hb3.size) _⟩
    clear ht3 hm3 hb3
    go_wp2
    (try simp only [Exit.inBlock, Exit.then])
    refine bodyPost_ret (v := .tuple #[.slice p3 m3 z3, .int .i64 E]) (by simp [results, Tryz.results29, go_sem]) rfl ?_
    exact ⟨_, L3, rfl, HF.out.1, hp4, HF.out.2⟩
  rw [if_neg h3] at HE HTT
  by_cases h4 : q = 4
  · subst h4
    rw [if_pos rfl] at HE HTT
    go_wp2_with fail
    rw [← hW2]
    refine (srmdir_any scheck_any isSp_means _ L da db s st _ (HV.out.up HB2.out) HOK.out HSM.out.1).mono ?_
    rintro e w3 ⟨u3, L3, rfl, ht3, hp3, hb3⟩
    obtain ⟨p3, z3, hu3, -, -⟩ := ht3.open
    obtain ⟨m3, hm3⟩ : ∃ m, L3.length = m := ⟨_, rfl⟩
    rw [hm3] at hu3
    subst hu3
    rw [HE]
    have hp4 := hp3.trans HTT
    have HF : Hid (TabW w3 (.slice p3 m3 z3) L3 ∧ Below w.heap.size w w3) := ⟨tab_wide ht3, HB2.out.trans (hb3.mono HB2.out.size)⟩
    clear ht3 hm3 hb3
    go_wp2
    (try simp only [Exit.inBlock, Exit.then])
    refine bodyPost_ret (v := .tuple #[.slice p3 m3 z3, .int .i64 E]) (by simp [results, Tryz.results29, go_sem]) rfl ?_
    exact ⟨_, L3, rfl, HF.out.1, hp4, HF.out.2⟩
  rw [if_neg h4] at HE HTT
  have t0 : (q == 0) = false := beq_eq_false_iff_ne.2 h0
  have t1 : (q == 1) = false := beq_eq_false_iff_ne.2 h1
  have t2 : (q == 2) = false := beq_eq_false_iff_ne.2 h2
  have t3 : (q == 3) = false := beq_eq_false_iff_ne.2 h3
  have t4 : (q == 4) = false := beq_eq_false_iff_ne.2 h4
  go_wp2_with fail
  rw [← hW2]
  refine (srename_any scheck_any isSp_means ins_said _ L da db s ta tb s2 st _ (HV.out.up HB2.out) HOK.out HSM.out.1 HSM.out.2).mono ?_
  rintro e w3 ⟨u3, L3, rfl, ht3, hp3, hb3⟩
  obtain ⟨p3, z3, hu3, -, -⟩ := ht3.open
  obtain ⟨m3, hm3⟩ : ∃ m, L3.length = m := ⟨_, rfl⟩
  rw [hm3] at hu3
  subst hu3
  rw [HE]
  have hp4 := hp3.trans HTT
  have HF : Hid (TabW w3 (.slice p3 m3 z3) L3 ∧ Below w.heap.size w w3) := ⟨tab_wide ht3, HB2.out.trans (hb3.mono HB2.out.size)⟩
  clear ht3 hm3 hb3
  go_wp2
  (try simp only [Exit.inBlock, Exit.then])
  refine bodyPost_ret (v := .tuple #[.slice p3 m3 z3, .int .i64 E]) (by simp [results, Tryz.results29, go_sem]) rfl ?_
  exact ⟨_, L3, rfl, HF.out.1, hp4, HF.out.2⟩
end Go.Proofs.YtacghcoikekfeaaGreat
