/-
  Tables whose entries are counted: each folder has one name at most, the root none: so the folders below a folder are gone through once each, and no deeper than there are inodes. No program.
-/
import Derived.Test.YtacghcoikekfeaaGreatFol0
namespace Go.Proofs.YtacghcoikekfeaaGreat
open It
set_option maxRecDepth 100000
namespace Sp
def allEnts (L : List Ino) : List En := L.flatMap (fun x => x.ents)
/-- Does an entry name a number? -/
def toNo (c : Nat) (e : En) : Bool := e.2.2.1 == (c : Int)
theorem one_in (q : En → Bool) : ∀ (L : List Ino) (p : Nat), (entsAt L p).countP q ≤ (allEnts L).countP q
  | [], p => by simp [entsAt]
  | x :: L, 0 => by
    have e : entsAt (x :: L) 0 = x.ents := rfl
    rw [e, allEnts, List.flatMap_cons, List.countP_append]
    omega
  | x :: L, p + 1 => by
    have e : entsAt (x :: L) (p + 1) = entsAt L p := rfl
    have ih := one_in q L p
    unfold allEnts at ih
    rw [e, allEnts, List.flatMap_cons, List.countP_append]
    omega
theorem two_in (q : En → Bool) : ∀ (L : List Ino) (p p' : Nat), p ≠ p' → (entsAt L p).countP q + (entsAt L p').countP q ≤ (allEnts L).countP q
  | [], p, p', _ => by simp [entsAt]
  | x :: L, 0, 0, h => absurd rfl h
  | x :: L, 0, p' + 1, _ => by
    have e : entsAt (x :: L) 0 = x.ents := rfl
    have e' : entsAt (x :: L) (p' + 1) = entsAt L p' := rfl
    have ih := one_in q L p'
    unfold allEnts at ih
    rw [e, e', allEnts, List.flatMap_cons, List.countP_append]
    omega
  | x :: L, p + 1, 0, _ => by
    have e : entsAt (x :: L) 0 = x.ents := rfl
    have e' : entsAt (x :: L) (p + 1) = entsAt L p := rfl
    have ih := one_in q L p
    unfold allEnts at ih
    rw [e, e', allEnts, List.flatMap_cons, List.countP_append]
    omega
  | x :: L, p + 1, p' + 1, h => by
    have e : entsAt (x :: L) (p + 1) = entsAt L p := rfl
    have e' : entsAt (x :: L) (p' + 1) = entsAt L p' := rfl
    have ih := two_in q L p p' (by omega)
    unfold allEnts at ih
    rw [e, e', allEnts, List.flatMap_cons, List.countP_append]
    omega
/-- Each entry names an inode, no folder has two names, the root none. -/
structure Tree (L : List Ino) : Prop where
  inr : ∀ p, ∀ e ∈ entsAt L p, 0 ≤ e.2.2.1 ∧ e.2.2.1 < L.length ∧ e.1.size ≤ 32 ∧ e.2.2.1 ≠ 0
  one : ∀ c, dirAt L c = true → (allEnts L).countP (toNo c) ≤ 1
  root : dirAt L 0 = true
/-- A folder is named in another one. -/
def Child (L : List Ino) (p c : Nat) : Prop := (∃ e ∈ entsAt L p, toNo c e = true) ∧ dirAt L c = true
/-- A folder is d steps below another one. -/
def Anc (L : List Ino) : Nat → Nat → Nat → Prop
  | 0, a, c => a = c
  | d + 1, a, c => ∃ p, Anc L d a p ∧ Child L p c
theorem dirAt_lt {L : List Ino} {c : Nat} (h : dirAt L c = true) : c < L.length := by
  unfold dirAt at h
  split at h
  · rename_i x hx
    exact (List.getElem?_eq_some_iff.1 hx).1
  · cases h
theorem Child.le {L : List Ino} {p c : Nat} (h : Child L p c) : 1 ≤ (entsAt L p).countP (toNo c) := by
  obtain ⟨⟨e, he, hc⟩, _⟩ := h
  exact List.countP_pos_iff.2 ⟨e, he, hc⟩
theorem child_one {L : List Ino} (ht : Tree L) {p p' c : Nat} (h : Child L p c) (h' : Child L p' c) : p = p' := by
  by_cases e : p = p'
  · exact e
  · have h1 := h.le
    have h2 := h'.le
    have h3 := two_in (toNo c) L p p' e
    have h4 := ht.one c h.2
    omega
theorem child_root {L : List Ino} (ht : Tree L) {p : Nat} (h : Child L p 0) : False := by
  obtain ⟨⟨e, he, hc⟩, _⟩ := h
  have := (ht.inr p e he).2.2.2
  simp [toNo] at hc
  exact this hc
theorem anc_trans {L : List Ino} {a b : Nat} {d : Nat} (h : Anc L d a b) : ∀ (d' c : Nat), Anc L d' b c → Anc L (d + d') a c
  | 0, c, h' => by
    have e : b = c := h'
    subst e
    exact h
  | d' + 1, c, h' => by
    obtain ⟨p, h1, h2⟩ := h'
    exact ⟨p, anc_trans h d' p h1, h2⟩
theorem anc_split {L : List Ino} {a : Nat} {d : Nat} : ∀ (d' c : Nat), Anc L (d + d') a c → ∃ b, Anc L d a b ∧ Anc L d' b c
  | 0, c, h => ⟨c, h, rfl⟩
  | d' + 1, c, h => by
    obtain ⟨p, h1, h2⟩ := h
    obtain ⟨b, h3, h4⟩ := anc_split d' p h1
    exact ⟨b, h3, p, h4, h2⟩
theorem anc_back {L : List Ino} (ht : Tree L) {a a' : Nat} : ∀ (d c : Nat), Anc L d a c → Anc L d a' c → a = a'
  | 0, c, h, h' => by
    have e : a = c := h
    have e' : a' = c := h'
    omega
  | d + 1, c, h, h' => by
    obtain ⟨p, h1, h2⟩ := h
    obtain ⟨p', h1', h2'⟩ := h'
    obtain rfl := child_one ht h2 h2'
    exact anc_back ht d p h1 h1'
theorem anc_child {L : List Ino} {a b c d : Nat} (h : Child L a b) (h' : Anc L d b c) : Anc L (d + 1) a c := by
  have := anc_trans (show Anc L 1 a b from ⟨a, rfl, h⟩) d c h'
  rwa [Nat.add_comm] at this
/-- A folder is found on one level alone. -/
theorem anc_level {L : List Ino} (ht : Tree L) {j k c : Nat} (h : Anc L j 0 c) (h' : Anc L k 0 c) : j = k := by
  have key : ∀ (j k c : Nat), j < k → Anc L j 0 c → Anc L k 0 c → False := fun j k c hlt h h' => by
    rw [show k = (k - j) + j by omega] at h'
    obtain ⟨b, h1, h2⟩ := anc_split j c h'
    obtain rfl := anc_back ht j c h h2
    rw [show k - j = (k - j - 1) + 1 by omega] at h1
    obtain ⟨p, _, h3⟩ := h1
    exact child_root ht h3
  rcases Nat.lt_trichotomy j k with hl | hl | hl
  · exact (key j k c hl h h').elim
  · exact hl
  · exact (key k j c hl h' h).elim
theorem anc_cycle {L : List Ino} (ht : Tree L) {m k x : Nat} (h : Anc L m 0 x) (h' : Anc L k x x) : k = 0 := by
  have := anc_level ht h (anc_trans h k x h')
  omega
/-- As many folders as there are levels. -/
theorem anc_list {L : List Ino} (ht : Tree L) : ∀ (d c : Nat), Anc L d 0 c → ∃ l : List Nat, l.length = d + 1 ∧ l.Nodup ∧ ∀ y ∈ l, y < L.length ∧ ∃ j, j ≤ d ∧ Anc L j 0 y
  | 0, c, h => by
    have e : 0 = c := h
    subst e
    exact ⟨[0], rfl, by simp, fun y hy => by
      rw [List.mem_singleton.1 hy]
      exact ⟨dirAt_lt ht.root, 0, Nat.le_refl _, rfl⟩⟩
  | d + 1, c, h => by
    obtain ⟨p, h1, h2⟩ := h
    obtain ⟨l, hl, hn, hm⟩ := anc_list ht d p h1
    have hc : Anc L (d + 1) 0 c := ⟨p, h1, h2⟩
    refine ⟨c :: l, by simp [hl], List.nodup_cons.2 ⟨fun hmem => ?_, hn⟩, fun y hy => ?_⟩
    · obtain ⟨_, j, hj, ha⟩ := hm c hmem
      have := anc_level ht ha hc
      omega
    · rcases List.mem_cons.1 hy with rfl | hy
      · exact ⟨dirAt_lt h2.2, d + 1, Nat.le_refl _, hc⟩
      · obtain ⟨h3, j, hj, ha⟩ := hm y hy
        exact ⟨h3, j, by omega, ha⟩
theorem anc_lt {L : List Ino} (ht : Tree L) {d c : Nat} (h : Anc L d 0 c) : d < L.length := by
  obtain ⟨l, hl, hn, hm⟩ := anc_list ht d c h
  have := List.Nodup.length_le_of_subset hn (l₂ := List.range L.length) (fun y hy => List.mem_range.2 (hm y hy).1)
  rw [List.length_range] at this
  omega
theorem not_deep {L : List Ino} (ht : Tree L) : ∀ (f x : Nat), x < L.length → ¬ deep L f x → ∃ c, Anc L f x c
  | 0, x, _, _ => ⟨x, rfl⟩
  | f + 1, x, hx, h => by
    by_cases hb : ∃ e ∈ entsAt L x, dirAt L e.2.2.1.toNat = true ∧ ¬ deep L f e.2.2.1.toNat
    · obtain ⟨e, he, hd, hn⟩ := hb
      obtain ⟨c, hc⟩ := not_deep ht f _ (dirAt_lt hd) hn
      refine ⟨c, anc_child ⟨⟨e, he, ?_⟩, hd⟩ hc⟩
      have := (ht.inr x e he).1
      simp [toNo]
      omega
    · refine absurd ?_ h
      refine ⟨hx, fun e he => ⟨?_, fun hd => ?_⟩⟩
      · have := ht.inr x e he
        exact ⟨this.1, this.2.1, this.2.2.1⟩
      · by_cases hn : deep L f e.2.2.1.toNat
        · exact hn
        · exact absurd ⟨e, he, hd, hn⟩ hb
theorem deep_all {L : List Ino} (ht : Tree L) (hL : L.length ≤ 24) {m x : Nat} (h : Anc L m 0 x) (hx : x < L.length) : deep L 24 x := by
  by_cases hd : deep L 24 x
  · exact hd
  · obtain ⟨c, hc⟩ := not_deep ht 24 x hx hd
    have := anc_lt ht (anc_trans h 24 c hc)
    omega
/-- Without entries nothing is below. -/
theorem deep_bare {L : List Ino} {x f : Nat} (hx : x < L.length) (h : entsAt L x = []) : deep L (f + 1) x := ⟨hx, fun e he => by rw [h] at he; cases he⟩
theorem mem_step {L : List Ino} {f : Nat} {path : ByteArray} {e : En} {z : Nat × ByteArray} (h : z ∈ step L f path e) : dirAt L e.2.2.1.toNat = true ∧ z ∈ walk L f e.2.2.1.toNat (way path e.1) := by
  unfold step at h
  split at h
  · rename_i hd
    exact ⟨hd, h⟩
  · cases h
theorem child_of {L : List Ino} (ht : Tree L) {no : Nat} {e : En} (he : e ∈ entsAt L no) (hd : dirAt L e.2.2.1.toNat = true) : Child L no e.2.2.1.toNat := by
  refine ⟨⟨e, he, ?_⟩, hd⟩
  have := (ht.inr no e he).1
  simp [toNo]
  omega
theorem walk_mem {L : List Ino} (ht : Tree L) : ∀ (f no : Nat) (path : ByteArray) (z : Nat × ByteArray), z ∈ walk L f no path → ∃ d, Anc L d no z.1
  | 0, _, _, z, h => by cases h
  | f + 1, no, path, z, h => by
    rw [walk_succ] at h
    rcases List.mem_cons.1 h with rfl | h
    · exact ⟨0, rfl⟩
    · obtain ⟨e, he, hz⟩ := List.mem_flatMap.1 h
      obtain ⟨hd, hz⟩ := mem_step hz
      obtain ⟨d, ha⟩ := walk_mem ht f _ _ z hz
      exact ⟨d + 1, anc_child (child_of ht he hd) ha⟩
theorem walk_has {L : List Ino} (ht : Tree L) : ∀ (f no : Nat) (path : ByteArray) (d c : Nat), Anc L d no c → d < f → ∃ z ∈ walk L f no path, z.1 = c
  | 0, _, _, d, _, _, h => by omega
  | f + 1, no, path, 0, c, h, _ => by
    have e : no = c := h
    subst e
    exact ⟨(no, path), by rw [walk_succ]; simp, rfl⟩
  | f + 1, no, path, d + 1, c, h, hlt => by
    rw [show d + 1 = 1 + d by omega] at h
    obtain ⟨b, h1, h2⟩ := anc_split d c h
    obtain ⟨p, hp, hc⟩ := h1
    have e : no = p := hp
    subst e
    obtain ⟨⟨e, he, hb⟩, hd⟩ := hc
    have hbn : e.2.2.1.toNat = b := by simp [toNo] at hb; omega
    obtain ⟨z, hz, hzc⟩ := walk_has ht f b (way path e.1) d c h2 (by omega)
    refine ⟨z, ?_, hzc⟩
    rw [walk_succ]
    refine List.mem_cons_of_mem _ (List.mem_flatMap.2 ⟨e, he, ?_⟩)
    unfold step
    rw [hbn, if_pos hd]
    exact hz
theorem ents_pair {L : List Ino} (ht : Tree L) (p : Nat) : (entsAt L p).Pairwise (fun e e' => dirAt L e.2.2.1.toNat = true → e.2.2.1.toNat ≠ e'.2.2.1.toNat) := by
  have key : ∀ l : List En, (∀ e ∈ l, 0 ≤ e.2.2.1) → (∀ c, dirAt L c = true → l.countP (toNo c) ≤ 1) → l.Pairwise (fun e e' => dirAt L e.2.2.1.toNat = true → e.2.2.1.toNat ≠ e'.2.2.1.toNat) := by
    intro l
    induction l with
    | nil => intro _ _; exact List.Pairwise.nil
    | cons e r ih =>
      intro h0 h
      refine List.pairwise_cons.2 ⟨fun e' he' hd hc => ?_, ih (fun x hx => h0 x (List.mem_cons_of_mem _ hx)) fun c hc => ?_⟩
      · have h1 := h _ hd
        have g0 := h0 e (by simp)
        have g1 := h0 e' (List.mem_cons_of_mem _ he')
        rw [List.countP_cons, if_pos (by simp [toNo]; omega)] at h1
        have : 0 < r.countP (toNo e.2.2.1.toNat) := List.countP_pos_iff.2 ⟨e', he', by simp [toNo]; omega⟩
        omega
      · have := h c hc
        rw [List.countP_cons] at this
        omega
  exact key _ (fun e he => (ht.inr p e he).1) fun c hc => Nat.le_trans (one_in (toNo c) L p) (ht.one c hc)
theorem walk_apart {L : List Ino} (ht : Tree L) : ∀ (f no : Nat) (path : ByteArray) (m : Nat), Anc L m 0 no → (walk L f no path).Pairwise (fun x y => x.1 ≠ y.1)
  | 0, _, _, _, _ => List.Pairwise.nil
  | f + 1, no, path, m, hm => by
    rw [walk_succ]
    refine List.pairwise_cons.2 ⟨fun z hz hc => ?_, List.pairwise_flatMap.2 ⟨fun e he => ?_, ?_⟩⟩
    · obtain ⟨e, he, hz⟩ := List.mem_flatMap.1 hz
      obtain ⟨hd, hz⟩ := mem_step hz
      obtain ⟨d, ha⟩ := walk_mem ht f _ _ z hz
      have := anc_cycle ht hm (show Anc L (d + 1) no no from by rw [← hc] at ha; exact anc_child (child_of ht he hd) ha)
      omega
    · unfold step
      split
      · rename_i hd
        exact walk_apart ht f _ _ (m + 1) ⟨no, hm, child_of ht he hd⟩
      · exact List.Pairwise.nil
    · have hp := ents_pair ht no
      refine List.Pairwise.imp_of_mem (fun {e e'} he he' hne z hz z' hz' hc => ?_) hp
      obtain ⟨hd, hz⟩ := mem_step hz
      obtain ⟨hd', hz'⟩ := mem_step hz'
      obtain ⟨d, ha⟩ := walk_mem ht f _ _ z hz
      obtain ⟨d', ha'⟩ := walk_mem ht f _ _ z' hz'
      rw [← hc] at ha'
      have c1 := child_of ht he hd
      have c2 := child_of ht he' hd'
      have h12 := hne hd
      have key : ∀ (a b d d' : Nat), Child L no a → Child L no b → a ≠ b → Anc L d a z.1 → Anc L d' b z.1 → d ≤ d' → False := fun a b d d' ca cb hab h1 h2 hle => by
        rw [show d' = (d' - d) + d by omega] at h2
        obtain ⟨x, h3, h4⟩ := anc_split d _ h2
        obtain rfl := anc_back ht d _ h1 h4
        cases hk : d' - d with
        | zero =>
          rw [hk] at h3
          have e : b = a := h3
          exact hab e.symm
        | succ k =>
          rw [hk] at h3
          obtain ⟨p, h5, h6⟩ := h3
          obtain rfl := child_one ht ca h6
          have := anc_cycle ht hm (anc_child cb h5)
          omega
      rcases Nat.le_total d d' with hle | hle
      · exact key _ _ d d' c1 c2 h12 ha ha' hle
      · exact key _ _ d' d c2 c1 (Ne.symm h12) ha' ha hle
theorem anc_dir {L : List Ino} (ht : Tree L) {d c : Nat} (h : Anc L d 0 c) : dirAt L c = true := by
  cases d with
  | zero =>
    have e : 0 = c := h
    subst e
    exact ht.root
  | succ d =>
    obtain ⟨p, _, hc⟩ := h
    exact hc.2
/-- The numbers of all folders. -/
def dirs (L : List Ino) : List Nat := (List.range L.length).filter (dirAt L)
theorem mem_dirs {L : List Ino} {c : Nat} : c ∈ dirs L ↔ dirAt L c = true := by
  unfold dirs
  rw [List.mem_filter, List.mem_range]
  exact ⟨fun h => h.2, fun h => ⟨dirAt_lt h, h⟩⟩
theorem walk_nodup {L : List Ino} (ht : Tree L) {f no m : Nat} {path : ByteArray} (h : Anc L m 0 no) : ((walk L f no path).map (·.1)).Nodup := by
  refine List.pairwise_map.2 (walk_apart ht f no path m h)
theorem walk_len {L : List Ino} (ht : Tree L) (f : Nat) (path : ByteArray) : (walk L f 0 path).length ≤ (dirs L).length := by
  have h := List.Nodup.length_le_of_subset (walk_nodup ht (f := f) (path := path) (show Anc L 0 0 0 from rfl)) (l₂ := dirs L) (fun c hc => by
    obtain ⟨z, hz, rfl⟩ := List.mem_map.1 hc
    obtain ⟨d, ha⟩ := walk_mem ht f 0 path z hz
    exact mem_dirs.2 (anc_dir ht ha))
  rwa [List.length_map] at h
/-- All folders are gone through, just where each is below the root. -/
theorem walk_all {L : List Ino} (ht : Tree L) (hL : L.length ≤ 24) (path : ByteArray) : (walk L 24 0 path).length = (dirs L).length ↔ ∀ c, dirAt L c = true → ∃ d, Anc L d 0 c := by
  have hn := walk_nodup ht (f := 24) (path := path) (show Anc L 0 0 0 from rfl)
  have hsub : ∀ c ∈ (walk L 24 0 path).map (·.1), c ∈ dirs L := fun c hc => by
    obtain ⟨z, hz, rfl⟩ := List.mem_map.1 hc
    obtain ⟨d, ha⟩ := walk_mem ht 24 0 path z hz
    exact mem_dirs.2 (anc_dir ht ha)
  have hdn : (dirs L).Nodup := List.Pairwise.filter _ List.nodup_range
  constructor
  · intro he c hc
    by_cases hm : c ∈ (walk L 24 0 path).map (·.1)
    · obtain ⟨z, hz, rfl⟩ := List.mem_map.1 hm
      exact walk_mem ht 24 0 path z hz
    · have := List.Nodup.length_le_of_subset (List.nodup_cons.2 ⟨hm, hn⟩) (l₂ := dirs L) (fun y hy => by
        rcases List.mem_cons.1 hy with rfl | hy
        · exact mem_dirs.2 hc
        · exact hsub y hy)
      simp only [List.length_cons, List.length_map] at this
      omega
  · intro h
    have h1 := walk_len ht 24 path
    have h2 := List.Nodup.length_le_of_subset hdn (l₂ := (walk L 24 0 path).map (·.1)) (fun c hc => by
      obtain ⟨d, ha⟩ := h c (mem_dirs.1 hc)
      have := anc_lt ht ha
      obtain ⟨z, hz, hzc⟩ := walk_has ht 24 0 path d c ha (by omega)
      exact List.mem_map.2 ⟨z, hz, hzc⟩)
    rw [List.length_map] at h2
    omega
end Sp
end Go.Proofs.YtacghcoikekfeaaGreat
