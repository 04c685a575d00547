/-
  A clock's alarms as a list (number, moment), by moments, then by numbers: what setting, dropping and telling make of it; what a map of ints reads as such a list. No program.
-/
import Derived.Maps.OwnSet
import Derived.Maps.RangeWalk
import Derived.Shelf.SlSortCmp.Insertion
import Derived.Shelf.SlicesG.Cmp
namespace Go.Proofs.Ytlhobncpifklkaa
namespace Al
open Go.Maps Go.Sort

abbrev before (x y : Int × Int) : Prop := x.2 < y.2 ∨ (x.2 = y.2 ∧ x.1 < y.1)

def find (L : List (Int × Int)) (n : Int) : Option Int := (L.find? (fun p => p.1 == n)).map (·.2)
def drop (L : List (Int × Int)) (n : Int) : List (Int × Int) := L.filter (fun p => p.1 != n)
def ins : List (Int × Int) → Int → Int → List (Int × Int)
  | [], n, a => [(n, a)]
  | p :: L, n, a => if a < p.2 ∨ (p.2 = a ∧ n < p.1) then (n, a) :: p :: L else p :: ins L n a
def set (L : List (Int × Int)) (n a : Int) : List (Int × Int) := ins (drop L n) n a
def due (L : List (Int × Int)) (now : Int) : List Int := (L.filter (fun p => decide (p.2 ≤ now))).map (·.1)
def rest (L : List (Int × Int)) (now : Int) : List (Int × Int) := L.filter (fun p => decide (now < p.2))

abbrev fits (x : Int) : Prop := 0 ≤ x ∧ x ≤ 1099511627776

structure Good (L : List (Int × Int)) : Prop where
  sorted : L.Pairwise before
  nodup : L.Pairwise (fun p q => p.1 ≠ q.1)
  inside : ∀ p ∈ L, fits p.1 ∧ fits p.2
  len : L.length ≤ 256

theorem good_nil : Good [] := ⟨.nil, .nil, (fun _ h => by cases h), by simp⟩

theorem find_nil (n : Int) : find [] n = none := rfl
theorem find_cons (p : Int × Int) (L : List (Int × Int)) (n : Int) : find (p :: L) n = if p.1 = n then some p.2 else find L n := by
  unfold find
  by_cases h : p.1 = n <;> simp [h]
theorem find_none_iff {L : List (Int × Int)} {n : Int} : find L n = none ↔ ∀ p ∈ L, p.1 ≠ n := by
  unfold find
  simp [List.find?_eq_none]
theorem mem_of_find {L : List (Int × Int)} {n a : Int} (h : find L n = some a) : (n, a) ∈ L := by
  induction L with
  | nil => simp [find_nil] at h
  | cons p L ih =>
    rw [find_cons] at h
    split at h
    · rename_i e
      cases h
      subst e
      simp
    · exact List.mem_cons_of_mem _ (ih h)
theorem find_of_mem {L : List (Int × Int)} {n a : Int} (hn : L.Pairwise (fun p q => p.1 ≠ q.1)) (h : (n, a) ∈ L) : find L n = some a := by
  induction L with
  | nil => cases h
  | cons p L ih =>
    rw [find_cons]
    obtain ⟨h1, h2⟩ := List.pairwise_cons.1 hn
    rcases List.mem_cons.1 h with rfl | h
    · simp
    · rw [if_neg (h1 _ h)]
      exact ih h2 h
theorem find_drop_same (L : List (Int × Int)) (n : Int) : find (drop L n) n = none := by
  rw [find_none_iff]
  intro p hp
  simpa using (List.mem_filter.1 hp).2
theorem find_drop_other (L : List (Int × Int)) {n m : Int} (h : m ≠ n) : find (drop L n) m = find L m := by
  induction L with
  | nil => rfl
  | cons p L ih =>
    unfold drop at ih ⊢
    rw [List.filter_cons]
    by_cases e : p.1 = n
    · subst e
      rw [if_neg (by simp), ih, find_cons, if_neg (fun e => h e.symm)]
    · rw [if_pos (by simpa using e), find_cons, find_cons, ih]
theorem find_ins_same {L : List (Int × Int)} {n : Int} (a : Int) (h : find L n = none) : find (ins L n a) n = some a := by
  induction L with
  | nil => simp [ins, find_cons]
  | cons p L ih =>
    rw [find_cons] at h
    split at h
    · cases h
    · rename_i e
      unfold ins
      split
      · rw [find_cons, if_pos rfl]
      · rw [find_cons, if_neg e]
        exact ih h
theorem find_ins_other (L : List (Int × Int)) {n m : Int} (a : Int) (h : m ≠ n) : find (ins L n a) m = find L m := by
  induction L with
  | nil => simp [ins, find_cons, find_nil]; exact fun e => h e.symm
  | cons p L ih =>
    unfold ins
    split
    · rw [find_cons, if_neg (fun e => h e.symm)]
    · rw [find_cons, find_cons, ih]
theorem length_ins (L : List (Int × Int)) (n a : Int) : (ins L n a).length = L.length + 1 := by
  induction L with
  | nil => rfl
  | cons p L ih =>
    unfold ins
    split <;> simp [ih]
theorem mem_ins {L : List (Int × Int)} {n a : Int} {q : Int × Int} : q ∈ ins L n a ↔ q = (n, a) ∨ q ∈ L := by
  induction L with
  | nil => simp [ins]
  | cons p L ih =>
    unfold ins
    split
    · simp
    · simp only [List.mem_cons, ih]
      constructor
      · rintro (h | h | h) <;> simp [h]
      · rintro (h | h | h) <;> simp [h]
theorem length_drop {L : List (Int × Int)} (hn : L.Pairwise (fun p q => p.1 ≠ q.1)) (n : Int) : (drop L n).length + (if (find L n).isSome then 1 else 0) = L.length := by
  induction L with
  | nil => rfl
  | cons p L ih =>
    obtain ⟨h1, h2⟩ := List.pairwise_cons.1 hn
    have ih := ih h2
    unfold drop at ih ⊢
    rw [List.filter_cons, find_cons]
    by_cases e : p.1 = n
    · subst e
      have h0 : find L p.1 = none := find_none_iff.2 fun q hq e => h1 q hq e.symm
      rw [h0] at ih
      simp at ih ⊢
      exact ih
    · rw [if_pos (by simpa using e), if_neg e]
      simp only [List.length_cons]
      omega
theorem sorted_ins {L : List (Int × Int)} {n a : Int} (hs : L.Pairwise before) (h : find L n = none) : (ins L n a).Pairwise before := by
  induction L with
  | nil => simp [ins]
  | cons p L ih =>
    obtain ⟨h1, h2⟩ := List.pairwise_cons.1 hs
    rw [find_cons] at h
    split at h
    · cases h
    · rename_i e
      unfold ins
      split
      · rename_i hb
        refine List.pairwise_cons.2 ⟨fun q hq => ?_, hs⟩
        rcases List.mem_cons.1 hq with rfl | hq
        · rcases hb with hb | ⟨e, hb⟩
          · exact .inl hb
          · exact .inr ⟨e.symm, hb⟩
        · have := h1 q hq
          simp only [before] at this ⊢
          omega
      · rename_i hb
        refine List.pairwise_cons.2 ⟨fun q hq => ?_, ih h2 h⟩
        rcases mem_ins.1 hq with rfl | hq
        · simp only [before]
          omega
        · exact h1 q hq
theorem nodup_ins {L : List (Int × Int)} {n a : Int} (hs : L.Pairwise (fun p q => p.1 ≠ q.1)) (h : find L n = none) : (ins L n a).Pairwise (fun p q => p.1 ≠ q.1) := by
  induction L with
  | nil => simp [ins]
  | cons p L ih =>
    have hall := find_none_iff.1 h
    obtain ⟨h1, h2⟩ := List.pairwise_cons.1 hs
    rw [find_cons] at h
    split at h
    · cases h
    · rename_i e
      unfold ins
      split
      · exact List.pairwise_cons.2 ⟨fun q hq e => hall q hq e.symm, hs⟩
      · refine List.pairwise_cons.2 ⟨fun q hq => ?_, ih h2 h⟩
        rcases mem_ins.1 hq with rfl | hq
        · exact e
        · exact h1 q hq
theorem length_set {L : List (Int × Int)} (hn : L.Pairwise (fun p q => p.1 ≠ q.1)) (n a : Int) : (set L n a).length = if (find L n).isSome then L.length else L.length + 1 := by
  have := length_drop hn n
  unfold set
  rw [length_ins]
  split <;> simp_all <;> omega
theorem find_set_same (L : List (Int × Int)) (n a : Int) : find (set L n a) n = some a := find_ins_same a (find_drop_same L n)
theorem find_set_other (L : List (Int × Int)) {n m : Int} (a : Int) (h : m ≠ n) : find (set L n a) m = find L m := by
  unfold set
  rw [find_ins_other _ a h, find_drop_other L h]
theorem Good.drop {L : List (Int × Int)} (h : Good L) (n : Int) : Good (drop L n) :=
  ⟨h.sorted.filter _, h.nodup.filter _, fun p hp => h.inside p (List.mem_filter.1 hp).1, Nat.le_trans (List.length_filter_le _ _) h.len⟩
theorem Good.rest {L : List (Int × Int)} (h : Good L) (now : Int) : Good (rest L now) :=
  ⟨h.sorted.filter _, h.nodup.filter _, fun p hp => h.inside p (List.mem_filter.1 hp).1, Nat.le_trans (List.length_filter_le _ _) h.len⟩
theorem Good.set {L : List (Int × Int)} (h : Good L) {n a : Int} (hn : fits n) (ha : fits a) (hr : (find L n).isSome = true ∨ L.length < 256) : Good (set L n a) := by
  have hl := length_set h.nodup n a
  have hlen := h.len
  refine ⟨sorted_ins (h.drop n).sorted (find_drop_same L n), nodup_ins (h.drop n).nodup (find_drop_same L n), fun p hp => ?_, ?_⟩
  · rcases mem_ins.1 hp with rfl | hp
    · exact ⟨hn, ha⟩
    · exact (h.drop n).inside p hp
  · rw [hl]
    split <;> simp_all <;> omega

/-- What a map of ints reads as. -/
structure Reads (D : DataW Unit) (L : List (Int × Int)) : Prop where
  has : ∀ n, Maps.has D (.int .i64 n) = (find L n).isSome
  elem : ∀ n a, find L n = some a → ∀ z, D.atKey (.int .i64 n) z = .lit (.int .i64 a)
  size : Maps.size D = L.length
theorem reads_nil : Reads (.map []) [] := ⟨fun _ => rfl, (fun _ _ h => by cases h), rfl⟩
theorem Reads.zero {D : DataW Unit} {L : List (Int × Int)} (h : Reads D L) (n : Int) : D.atKey (.int .i64 n) (.lit (.int .i64 0)) = .lit (.int .i64 ((find L n).getD 0)) := by
  cases hf : find L n with
  | none =>
    have := h.has n
    rw [hf] at this
    exact atKey_of_not_has this _
  | some a => exact h.elem n a hf _
theorem Reads.put {D : DataW Unit} {L : List (Int × Int)} (h : Reads D L) (hT : Tidy D) (hn : L.Pairwise (fun p q => p.1 ≠ q.1)) (n a : Int) : Reads (D.put (.int .i64 n) (.lit (.int .i64 a))) (set L n a) := by
  refine ⟨fun m => ?_, fun m b hb z => ?_, ?_⟩
  · by_cases e : m = n
    · subst e
      rw [has_put_same hT.isMap (k := .int .i64 m) trivial, find_set_same]
      rfl
    · rw [has_put_other (by simpa using e), find_set_other L a e]
      exact h.has m
  · by_cases e : m = n
    · subst e
      rw [find_set_same] at hb
      cases hb
      exact atKey_put_same (k := .int .i64 m) hT.isMap trivial _ _
    · rw [find_set_other L a e] at hb
      rw [atKey_put_other (by simpa using e)]
      exact h.elem m b hb z
  · rw [size_put hT, h.has n, h.size, length_set hn]
theorem Reads.del {D : DataW Unit} {L : List (Int × Int)} (h : Reads D L) (hT : Tidy D) (hn : L.Pairwise (fun p q => p.1 ≠ q.1)) (n : Int) : Reads (D.del (.int .i64 n)) (drop L n) := by
  refine ⟨fun m => ?_, fun m b hb z => ?_, ?_⟩
  · by_cases e : m = n
    · subst e
      rw [has_del_same, find_drop_same]
      rfl
    · rw [has_del_other (by simpa using e), find_drop_other L e]
      exact h.has m
  · by_cases e : m = n
    · subst e
      rw [find_drop_same] at hb
      cases hb
    · rw [find_drop_other L e] at hb
      rw [atKey_del_other (by simpa using e)]
      exact h.elem m b hb z
  · have := size_del (k := .int .i64 n) hT
    have h2 := length_drop hn n
    rw [h.has n, h.size] at this
    omega

theorem foldl_drop (ns : List Int) : ∀ L : List (Int × Int), ns.foldl drop L = L.filter (fun p => !ns.contains p.1) := by
  induction ns with
  | nil => intro L; simp only [List.foldl_nil, List.contains_nil, Bool.not_false]; exact (List.filter_eq_self.2 (fun _ _ => rfl)).symm
  | cons n ns ih =>
    intro L
    rw [List.foldl_cons, ih]
    unfold drop
    rw [List.filter_filter]
    refine List.filter_congr fun p _ => ?_
    by_cases e : p.1 = n <;> simp [e]
theorem mem_due {L : List (Int × Int)} (hn : L.Pairwise (fun p q => p.1 ≠ q.1)) {now x : Int} : x ∈ due L now ↔ ∃ a, find L x = some a ∧ a ≤ now := by
  unfold due
  rw [List.mem_map]
  constructor
  · rintro ⟨⟨y, a⟩, hm, rfl⟩
    obtain ⟨h1, h2⟩ := List.mem_filter.1 hm
    exact ⟨a, find_of_mem hn h1, by simpa using h2⟩
  · rintro ⟨a, hf, ha⟩
    exact ⟨(x, a), List.mem_filter.2 ⟨mem_of_find hf, by simpa using ha⟩, rfl⟩
theorem nodup_due {L : List (Int × Int)} (hn : L.Pairwise (fun p q => p.1 ≠ q.1)) (now : Int) : (due L now).Nodup := by
  unfold due
  exact List.pairwise_map.2 (hn.filter _)
theorem dropped {L : List (Int × Int)} (hn : L.Pairwise (fun p q => p.1 ≠ q.1)) (now : Int) : (due L now).foldl drop L = rest L now := by
  rw [foldl_drop]
  unfold rest
  refine List.filter_congr fun p hp => ?_
  have hf := find_of_mem (a := p.2) hn hp
  have : (due L now).contains p.1 = decide (p.2 ≤ now) := by
    rw [Bool.eq_iff_iff]
    simp only [List.contains_iff_mem, decide_eq_true_eq, mem_due hn]
    constructor
    · rintro ⟨a, h1, h2⟩
      rw [hf] at h1
      cases h1
      exact h2
    · exact fun h => ⟨_, hf, h⟩
  rw [this]
  by_cases h : p.2 ≤ now
  · simp [h]
  · simp [h]; omega

/-! ### the order -/
abbrev I64 := { x : Int // -9223372036854775808 ≤ x ∧ x ≤ 9223372036854775807 }
instance : Inhabited I64 := ⟨⟨0, by omega⟩⟩
def enc (x : I64) : Value := .int .i64 x.1
def mom (L : List (Int × Int)) (x : Int) : Int := (find L x).getD 0
def cf (L : List (Int × Int)) (x y : I64) : Int := if Lib.compareInt (mom L x.1) (mom L y.1) ≠ 0 then Lib.compareInt (mom L x.1) (mom L y.1) else Lib.compareInt x.1 y.1
theorem lt_cf (L : List (Int × Int)) (x y : I64) : ltOf (cf L) x y = decide (before (x.1, mom L x.1) (y.1, mom L y.1)) := by
  unfold ltOf cf Lib.compareInt before
  simp only
  generalize mom L x.1 = a
  generalize mom L y.1 = b
  obtain ⟨x, _⟩ := x
  obtain ⟨y, _⟩ := y
  simp only
  rw [Bool.eq_iff_iff]
  simp only [decide_eq_true_eq]
  repeat' split
  all_goals omega
theorem swo_cf (L : List (Int × Int)) : SWO (ltOf (cf L)) where
  irrefl x := by rw [lt_cf]; simp [before]
  trans x y z h1 h2 := by rw [lt_cf] at *; simp [before] at *; omega
  ntrans x y z h1 h2 := by rw [lt_cf] at *; simp [before] at *; omega
theorem tot_cf (L : List (Int × Int)) (x y : I64) (h1 : ltOf (cf L) x y = false) (h2 : ltOf (cf L) y x = false) : x = y := by
  rw [lt_cf] at *
  simp [before] at *
  exact Subtype.ext (by omega)
/-- Whatever was collected, once, of what is due: sorted it is what is told. -/
theorem sorted_due {L : List (Int × Int)} (h : Good L) (now : Int) (d : List I64) (hnd : (d.map (·.1)).Nodup) (hm : ∀ x, x ∈ d.map (·.1) ↔ x ∈ due L now) :
    (d.mergeSort fun x y => !(ltOf (cf L)) y x).map (·.1) = due L now := by
  have hso := swo_cf L
  have tr : ∀ a b c : I64, (!(ltOf (cf L)) b a) = true → (!(ltOf (cf L)) c b) = true → (!(ltOf (cf L)) c a) = true := fun a b c h1 h2 => by
    rw [lt_cf] at *
    simp [before] at *
    omega
  have to : ∀ a b : I64, ((!(ltOf (cf L)) b a) || !(ltOf (cf L)) a b) = true := fun a b => by
    rw [lt_cf, lt_cf]
    simp [before]
    omega
  have hp1 := List.pairwise_mergeSort (le := fun x y => !(ltOf (cf L)) y x) tr to d
  have hperm : ((d.mergeSort fun x y => !(ltOf (cf L)) y x).map (·.1)).Perm (due L now) := by
    refine ((List.mergeSort_perm d _).map _).trans ?_
    exact (List.perm_ext_iff_of_nodup hnd (nodup_due h.nodup now)).2 hm
  refine List.Perm.eq_of_pairwise (le := fun x y : Int => before (x, mom L x) (y, mom L y) ∨ x = y) (fun a b _ _ h1 h2 => ?_) ?_ ?_ hperm
  · rcases h1 with h1 | h1 <;> rcases h2 with h2 | h2
    · simp only [before] at h1 h2
      omega
    · exact h2.symm
    · exact h1
    · exact h1
  · refine List.pairwise_map.2 (hp1.imp fun {a b} hab => ?_)
    rw [lt_cf] at hab
    simp only [before, Bool.not_eq_true', decide_eq_false_iff_not] at hab ⊢
    omega
  · unfold due
    refine List.pairwise_map.2 ?_
    have h1 : (L.filter (fun p => decide (p.2 ≤ now))).Pairwise before := h.sorted.filter _
    refine List.Pairwise.imp_of_mem (fun {a b} ha hb hab => ?_) h1
    have ea := find_of_mem (a := a.2) h.nodup (List.mem_filter.1 ha).1
    have eb := find_of_mem (a := b.2) h.nodup (List.mem_filter.1 hb).1
    left
    simp only [mom, ea, eb, Option.getD_some]
    exact hab
end Al
end Go.Proofs.Ytlhobncpifklkaa
