/-
  Plain mathematics of runs (no program): right runs, clipped runs, joined runs, the bytes that they have, each with its place.
-/
import Derived.WalkKit
namespace Go.Proofs.Ytkkaendfcfkbbaa
namespace Bl
abbrev R := Int × ByteArray
def d0 : R := (0, ⟨#[]⟩)
def txt (l : List UInt8) : ByteArray := ⟨l.toArray⟩
def bs (r : R) : List UInt8 := r.2.data.toList
theorem txt_bs (s : ByteArray) : txt s.data.toList = s := by cases s; simp [txt]
theorem bs_txt (a : Int) (l : List UInt8) : bs (a, txt l) = l := by simp [bs, txt]
theorem txt_size (l : List UInt8) : (txt l).size = l.length := by simp [txt, ByteArray.size]
theorem txt_append (a b : List UInt8) : txt a ++ txt b = txt (a ++ b) := ByteArray.mk_append_mk a b
theorem bs_length (r : R) : (bs r).length = r.2.size := by simp [bs]
theorem data_append (a b : ByteArray) : (a ++ b).data.toList = a.data.toList ++ b.data.toList := by simp
theorem size_append (a b : ByteArray) : (a ++ b).size = a.size + b.size := by simp
theorem extract_txt (s : ByteArray) (a b : Nat) : s.extract a b = txt ((s.data.toList.drop a).take (b - a)) := by
  cases s with
  | mk d =>
    simp only [txt]
    apply ByteArray.ext
    simp only [ByteArray.data_extract]
    rw [← Array.toList_inj]
    simp [Array.toList_extract, List.extract_eq_take_drop]
def rend (r : R) : Int := r.1 + r.2.size
abbrev MAX : Int := 1048576
/-- Right runs behind a place. -/
def right (last : Int) : List R → Prop
  | [] => True
  | r :: l => (r.2.size ≠ 0 ∧ last < r.1 ∧ r.1 + r.2.size ≤ MAX) ∧ right (rend r) l
instance instRight : ∀ (last : Int) (l : List R), Decidable (right last l)
  | _, [] => .isTrue trivial
  | _, r :: l => @instDecidableAnd _ _ inferInstance (instRight (rend r) l)
def lastEnd (a : Int) : List R → Int
  | [] => a
  | r :: l => lastEnd (rend r) l
theorem lastEnd_append (l m : List R) : ∀ a, lastEnd a (l ++ m) = lastEnd (lastEnd a l) m := by
  induction l with
  | nil => intro a; rfl
  | cons r l ih => intro a; exact ih _
theorem right_append (l m : List R) : ∀ a, right a (l ++ m) ↔ right a l ∧ right (lastEnd a l) m := by
  induction l with
  | nil => intro a; simp [right, lastEnd]
  | cons r l ih =>
    intro a
    have h := ih (rend r)
    show (_ ∧ right (rend r) (l ++ m)) ↔ (_ ∧ right (rend r) l) ∧ right (lastEnd (rend r) l) m
    rw [h]
    exact (and_assoc (a := _ ∧ _ ∧ _)).symm
theorem right_lastEnd {l : List R} : ∀ {a : Int}, right a l → a ≤ lastEnd a l := by
  induction l with
  | nil => intro a _; exact Int.le_refl _
  | cons r l ih =>
    intro a h
    have := ih h.2
    have h1 := h.1
    show a ≤ lastEnd (rend r) l
    unfold rend at *
    omega
theorem right_mem {l : List R} : ∀ {a : Int}, right a l → ∀ r ∈ l, r.2.size ≠ 0 ∧ a < r.1 ∧ rend r ≤ MAX := by
  induction l with
  | nil => intro a _ r hr; cases hr
  | cons s l ih =>
    intro a h r hr
    rcases List.mem_cons.1 hr with rfl | hr
    · exact ⟨h.1.1, h.1.2.1, h.1.2.2⟩
    · have := ih h.2 r hr
      have h1 := h.1
      unfold rend at *
      exact ⟨this.1, by omega, this.2.2⟩
theorem right_length {l : List R} : ∀ {a : Int}, right a l → a ≤ MAX → (l.length : Int) ≤ MAX - a := by
  induction l with
  | nil => intro a _ ha; simp; omega
  | cons s l ih =>
    intro a h ha
    have h1 := h.1
    have := ih h.2 (by unfold rend; omega)
    simp only [List.length_cons]
    unfold rend at *
    omega
/-- The bytes at places that rise from p on. -/
def onesFrom (p : Int) : List UInt8 → List (Int × UInt8)
  | [] => []
  | b :: l => (p, b) :: onesFrom (p + 1) l
theorem onesFrom_append (l m : List UInt8) : ∀ p, onesFrom p (l ++ m) = onesFrom p l ++ onesFrom (p + l.length) m := by
  induction l with
  | nil => intro p; simp [onesFrom]
  | cons b l ih =>
    intro p
    simp only [List.cons_append, onesFrom, List.length_cons, ih]
    rw [show p + 1 + (l.length : Int) = p + ((l.length + 1 : Nat) : Int) from by omega]
theorem onesFrom_mem (l : List UInt8) : ∀ p, ∀ q ∈ onesFrom p l, p ≤ q.1 ∧ q.1 < p + l.length := by
  induction l with
  | nil => intro p q hq; cases hq
  | cons b l ih =>
    intro p q hq
    simp only [onesFrom, List.mem_cons] at hq
    simp only [List.length_cons]
    rcases hq with rfl | hq
    · simp; omega
    · have := ih _ q hq; omega
theorem filter_ge (a : Int) (l : List UInt8) : ∀ p, (onesFrom p l).filter (fun q => decide (a ≤ q.1)) = onesFrom (max p a) (l.drop (a - p).toNat) := by
  induction l with
  | nil => intro p; simp [onesFrom]
  | cons b l ih =>
    intro p
    simp only [onesFrom]
    by_cases h : a ≤ p
    · rw [List.filter_cons_of_pos (by simpa using h), ih, show (a - p).toNat = 0 from by omega, show (a - (p + 1)).toNat = 0 from by omega, show max p a = p from by omega, show max (p + 1) a = p + 1 from by omega]
      simp [onesFrom]
    · rw [List.filter_cons_of_neg (by simpa using h), ih, show (a - p).toNat = (a - (p + 1)).toNat + 1 from by omega, show max (p + 1) a = max p a from by omega]
      simp
theorem filter_lt (a : Int) (l : List UInt8) : ∀ p, (onesFrom p l).filter (fun q => decide (q.1 < a)) = onesFrom p (l.take (a - p).toNat) := by
  induction l with
  | nil => intro p; simp [onesFrom]
  | cons b l ih =>
    intro p
    simp only [onesFrom]
    by_cases h : p < a
    · rw [List.filter_cons_of_pos (by simpa using h), ih, show (a - p).toNat = (a - (p + 1)).toNat + 1 from by omega]
      simp [onesFrom]
    · rw [List.filter_cons_of_neg (by simpa using h), ih, show (a - p).toNat = 0 from by omega, show (a - (p + 1)).toNat = 0 from by omega]
      simp [onesFrom]
def one (r : R) : List (Int × UInt8) := onesFrom r.1 (bs r)
def ones (l : List R) : List (Int × UInt8) := l.flatMap one
theorem ones_append (l m : List R) : ones (l ++ m) = ones l ++ ones m := by simp [ones]
theorem ones_cons (r : R) (l : List R) : ones (r :: l) = one r ++ ones l := by simp [ones]
theorem ones_nil : ones [] = [] := rfl
theorem one_mem (r : R) : ∀ q ∈ one r, r.1 ≤ q.1 ∧ q.1 < rend r := fun q hq => by
  have := onesFrom_mem _ _ q hq
  rw [bs_length] at this
  exact this
/-- What a run has from a place on up to another one. -/
def clip (a b : Int) (r : R) : Option R :=
  if max r.1 a < min (rend r) b then some (max r.1 a, r.2.extract (max r.1 a - r.1).toNat (min (rend r) b - r.1).toNat) else none
def within (a b : Int) (l : List R) : List R := l.filterMap (clip a b)
def inn (a b : Int) (q : Int × UInt8) : Bool := decide (a ≤ q.1) && decide (q.1 < b)
theorem filter_one (a b : Int) (r : R) : (one r).filter (inn a b) = match clip a b r with | some s => one s | none => [] := by
  have e : (one r).filter (inn a b) = ((one r).filter (fun q => decide (q.1 < b))).filter (fun q => decide (a ≤ q.1)) := by
    rw [List.filter_filter]; rfl
  rw [e]
  unfold one
  rw [filter_lt, filter_ge]
  have hl := bs_length r
  unfold clip rend
  by_cases h : max r.1 a < min (r.1 + r.2.size) b
  · rw [if_pos h]
    simp only
    rw [extract_txt, bs_txt]
    congr 1
    show ((bs r).take _).drop _ = ((bs r).drop _).take _
    rw [List.drop_take, show (max r.1 a - r.1).toNat = (a - r.1).toNat from by omega]
    by_cases h2 : r.1 + r.2.size ≤ b
    · rw [List.take_of_length_le (by simp only [List.length_drop]; omega), List.take_of_length_le (by simp only [List.length_drop]; omega)]
    · congr 1
      omega
  · rw [if_neg h]
    simp only
    have : (List.drop (a - r.1).toNat (List.take (b - r.1).toNat (bs r))) = [] := by
      apply List.eq_nil_of_length_eq_zero
      simp only [List.length_drop, List.length_take]
      omega
    rw [this]
    rfl
theorem ones_within (a b : Int) (l : List R) : ones (within a b l) = (ones l).filter (inn a b) := by
  induction l with
  | nil => rfl
  | cons r l ih =>
    rw [ones_cons, List.filter_append, filter_one, ← ih]
    unfold within
    rw [List.filterMap_cons]
    cases clip a b r with
    | none => simp
    | some s => simp [ones_cons]
theorem within_snoc (a b : Int) (l : List R) (x : R) : within a b (l ++ [x]) = within a b l ++ (clip a b x).toList := by
  unfold within
  rw [List.filterMap_append]
  congr 1
theorem clip_some {a b : Int} {r s : R} (h : clip a b r = some s) : s.1 = max r.1 a ∧ rend s = min (rend r) b ∧ 0 < s.2.size := by
  unfold clip at h
  split at h
  · rename_i hlt
    cases h
    have hl := bs_length r
    have e : (r.2.extract (max r.1 a - r.1).toNat (min (rend r) b - r.1).toNat).size = (min (rend r) b - max r.1 a).toNat := by
      rw [extract_txt, txt_size]
      simp only [List.length_take, List.length_drop]
      unfold bs at hl
      rw [hl]
      unfold rend at *
      omega
    refine ⟨rfl, ?_, ?_⟩
    · unfold rend at *
      simp only [e]
      omega
    · simp only [e]
      omega
  · cases h
/-- Runs that rise, and may touch. -/
def chain (a : Int) : List R → Prop
  | [] => True
  | r :: l => (r.2.size ≠ 0 ∧ a ≤ r.1 ∧ rend r ≤ MAX) ∧ chain (rend r) l
theorem chain_within (a b : Int) : ∀ (l : List R) (last c : Int), right last l → (c ≤ last + 1 ∨ c ≤ a) → chain c (within a b l)
  | [], _, _, _, _ => trivial
  | r :: l, last, c, h, hc => by
    unfold within
    rw [List.filterMap_cons]
    have h1 := h.1
    cases hx : clip a b r with
    | none =>
      refine chain_within a b l (rend r) c h.2 ?_
      unfold rend
      rcases hc with hc | hc
      · left; omega
      · exact .inr hc
    | some s =>
      obtain ⟨e1, e2, e3⟩ := clip_some hx
      refine ⟨⟨by omega, by omega, by unfold rend at *; omega⟩, chain_within a b l (rend r) (rend s) h.2 (.inl (by omega))⟩
theorem within_mem {a b : Int} {l : List R} : ∀ s ∈ within a b l, a ≤ s.1 ∧ rend s ≤ b ∧ 0 < s.2.size := by
  intro s hs
  obtain ⟨r, _, hr⟩ := List.mem_filterMap.1 hs
  obtain ⟨e1, e2, e3⟩ := clip_some hr
  exact ⟨by omega, by omega, e3⟩
theorem chain_append {b : Int} {ys : List R} (hy : chain b ys) : ∀ (xs : List R) (a : Int), chain a xs → (∀ x ∈ xs, rend x ≤ b) → a ≤ b → chain a (xs ++ ys)
  | [], a, _, _, hab => by
    match ys, hy with
    | [], _ => trivial
    | r :: l, h => exact ⟨⟨h.1.1, by have := h.1.2.1; omega, h.1.2.2⟩, h.2⟩
  | x :: xs, a, h, hm, _ => ⟨h.1, chain_append hy xs (rend x) h.2 (fun y hy => hm y (List.mem_cons_of_mem _ hy)) (hm x (List.mem_cons_self ..))⟩
/-- A run set behind others: one that touches the last becomes part of it. -/
def join (l : List R) (r : R) : List R :=
  match l.getLast? with
  | none => [r]
  | some s => if rend s = r.1 then l.dropLast ++ [(s.1, s.2 ++ r.2)] else l ++ [r]
theorem join_nil (r : R) : join [] r = [r] := rfl
theorem join_snoc (l : List R) (s r : R) : join (l ++ [s]) r = if rend s = r.1 then l ++ [(s.1, s.2 ++ r.2)] else l ++ [s] ++ [r] := by
  simp [join]
theorem snoc_cases (l : List R) : l = [] ∨ ∃ m s, l = m ++ [s] := by
  rcases List.eq_nil_or_concat l with h | ⟨m, s, h⟩
  · exact .inl h
  · exact .inr ⟨m, s, by simpa using h⟩
theorem ones_join (l : List R) (r : R) : ones (join l r) = ones l ++ one r := by
  rcases snoc_cases l with rfl | ⟨m, s, rfl⟩
  · simp [join_nil, ones]
  · rw [join_snoc]
    split
    · rename_i h
      rw [ones_append, ones_append, List.append_assoc]
      congr 1
      simp only [ones, List.flatMap_cons, List.flatMap_nil, List.append_nil]
      unfold one
      rw [show bs (s.1, s.2 ++ r.2) = bs s ++ bs r from data_append _ _, onesFrom_append, bs_length, ← h]
      rfl
    · rw [ones_append]
      simp [ones]
theorem join_right {l : List R} {r : R} (h : right (-1) l) (h1 : r.2.size ≠ 0) (h2 : lastEnd (-1) l ≤ r.1) (h3 : 0 ≤ r.1) (h4 : rend r ≤ MAX) : right (-1) (join l r) ∧ lastEnd (-1) (join l r) = rend r := by
  rcases snoc_cases l with rfl | ⟨m, s, rfl⟩
  · exact ⟨⟨⟨h1, by omega, h4⟩, trivial⟩, rfl⟩
  · rw [join_snoc]
    rw [right_append] at h
    obtain ⟨hm, hs, _⟩ := h
    rw [lastEnd_append] at h2
    have h2' : rend s ≤ r.1 := h2
    split
    · rename_i he
      refine ⟨(right_append _ _ _).2 ⟨hm, ⟨?_, trivial⟩⟩, ?_⟩
      · simp only [size_append]
        unfold rend at *
        refine ⟨by omega, hs.2.1, by omega⟩
      · rw [lastEnd_append]
        show rend _ = rend r
        unfold rend at *
        simp only [size_append]
        omega
    · rename_i he
      refine ⟨(right_append _ _ _).2 ⟨(right_append _ _ _).2 ⟨hm, hs, trivial⟩, ⟨⟨h1, ?_, h4⟩, trivial⟩⟩, ?_⟩
      · rw [lastEnd_append]
        show rend s < r.1
        omega
      · rw [lastEnd_append]
        rfl
def joins (l xs : List R) : List R := xs.foldl join l
theorem joins_append (l xs ys : List R) : joins l (xs ++ ys) = joins (joins l xs) ys := by simp [joins]
theorem joins_snoc (l xs : List R) (x : R) : joins l (xs ++ [x]) = join (joins l xs) x := by simp [joins]
theorem ones_joins (xs : List R) : ∀ l, ones (joins l xs) = ones l ++ ones xs := by
  induction xs with
  | nil => intro l; simp [joins, ones]
  | cons x xs ih =>
    intro l
    show ones (joins (join l x) xs) = _
    rw [ih, ones_join, ones_cons, List.append_assoc]
theorem joins_right : ∀ (xs l : List R) (a : Int), right (-1) l → lastEnd (-1) l ≤ a → 0 ≤ a → chain a xs → right (-1) (joins l xs)
  | [], _, _, h, _, _, _ => h
  | x :: xs, l, a, h, h2, h0, hc => by
    obtain ⟨hr, he⟩ := join_right h hc.1.1 (Int.le_trans h2 hc.1.2.1) (Int.le_trans h0 hc.1.2.1) hc.1.2.2
    have h1 := hc.1
    exact joins_right xs (join l x) (rend x) hr (Int.le_of_eq he) (by unfold rend; omega) hc.2
/-- How many bytes; how many runs. -/
def total (l : List R) : Nat := (l.map fun r => r.2.size).sum
theorem total_append (l m : List R) : total (l ++ m) = total l + total m := by simp [total]
theorem total_join (l : List R) (r : R) : total (join l r) = total l + r.2.size := by
  rcases snoc_cases l with rfl | ⟨m, s, rfl⟩
  · simp [join_nil, total]
  · rw [join_snoc]
    split
    · simp [total]; omega
    · simp [total]; omega
theorem total_joins (xs : List R) : ∀ l, total (joins l xs) = total l + total xs := by
  induction xs with
  | nil => intro l; simp [joins, total]
  | cons x xs ih =>
    intro l
    show total (joins (join l x) xs) = _
    rw [ih, total_join]
    simp [total]; omega
theorem length_join (l : List R) (r : R) : (join l r).length ≤ l.length + 1 := by
  rcases snoc_cases l with rfl | ⟨m, s, rfl⟩
  · simp [join_nil]
  · rw [join_snoc]; split <;> simp
theorem length_joins (xs : List R) : ∀ l, (joins l xs).length ≤ l.length + xs.length := by
  induction xs with
  | nil => intro l; simp [joins]
  | cons x xs ih =>
    intro l
    have := ih (join l x)
    have h2 := length_join l x
    show (joins (join l x) xs).length ≤ _
    simp only [List.length_cons]
    omega
theorem total_mem {l : List R} {r : R} (h : r ∈ l) : r.2.size ≤ total l := by
  induction l with
  | nil => cases h
  | cons s l ih =>
    simp only [total, List.map_cons, List.sum_cons]
    rcases List.mem_cons.1 h with rfl | h
    · omega
    · have := ih h; unfold total at this; omega
theorem right_total {l : List R} : ∀ {a : Int}, right a l → a ≤ MAX → (total l : Int) + l.length ≤ MAX - a := by
  induction l with
  | nil => intro a _ ha; simp [total]; omega
  | cons s l ih =>
    intro a h ha
    have h1 := h.1
    have := ih h.2 (by unfold rend; omega)
    simp only [total, List.map_cons, List.sum_cons, List.length_cons] at this ⊢
    unfold rend at *
    omega
/-- Runs with bytes written. -/
def parts (l : List R) (at_ : Int) (d : ByteArray) : List R := within 0 at_ l ++ (if d.size = 0 then [] else [(at_, d)]) ++ within (at_ + d.size) MAX l
def write (l : List R) (at_ : Int) (d : ByteArray) : List R := joins [] (parts l at_ d)
theorem write_right {l : List R} {at_ : Int} {d : ByteArray} (h : right (-1) l) (h0 : 0 ≤ at_) (h1 : at_ + d.size ≤ MAX) : right (-1) (write l at_ d) := by
  refine joins_right _ [] 0 trivial (by decide) (Int.le_refl _) ?_
  unfold parts
  refine chain_append (b := at_ + d.size) (chain_within _ _ l (-1) _ h (.inr (Int.le_refl _))) _ 0 (chain_append (b := at_) ?_ _ 0 (chain_within _ _ l (-1) _ h (.inr (Int.le_refl _))) (fun x hx => (within_mem x hx).2.1) h0) (fun x hx => ?_) (by omega)
  · split
    · trivial
    · exact ⟨⟨‹_›, Int.le_refl _, h1⟩, trivial⟩
  · rcases List.mem_append.1 hx with hx | hx
    · have := (within_mem x hx).2.1; omega
    · split at hx
      · cases hx
      · simp only [List.mem_singleton] at hx
        subst hx
        exact Int.le_refl _
theorem ones_write (l : List R) (at_ : Int) (d : ByteArray) : ones (write l at_ d) = (ones l).filter (inn 0 at_) ++ onesFrom at_ d.data.toList ++ (ones l).filter (inn (at_ + d.size) MAX) := by
  unfold write parts
  rw [ones_joins, ones_append, ones_append, ones_within, ones_within]
  simp only [ones_nil, List.nil_append]
  congr 2
  split
  · rename_i h
    have : d.data.toList = [] := List.eq_nil_of_length_eq_zero (by simpa using h)
    rw [this]
    rfl
  · simp [ones, one, bs]
/-- Bytes at places, made runs. -/
def made (l : List (Int × UInt8)) : List R := joins [] (l.map fun q => (q.1, txt [q.2]))
theorem joins_from (l : List UInt8) : ∀ (out : List R) (p : Int) (b : List UInt8), joins (out ++ [(p, txt b)]) ((onesFrom (p + b.length) l).map fun q => (q.1, txt [q.2])) = out ++ [(p, txt (b ++ l))] := by
  induction l with
  | nil => intro out p b; simp [onesFrom, joins]
  | cons c l ih =>
    intro out p b
    simp only [onesFrom, List.map_cons]
    show joins (join _ _) _ = _
    rw [join_snoc, if_pos (by unfold rend; rw [txt_size])]
    simp only
    rw [txt_append]
    have := ih out p (b ++ [c])
    rw [show p + ((b ++ [c]).length : Int) = p + b.length + 1 from by simp; omega] at this
    rw [this]
    simp
theorem joins_one {out : List R} {a : Int} {r : R} (h : right a out) (hr : r.2.size ≠ 0) (hl : lastEnd a out < r.1) : joins out ((one r).map fun q => (q.1, txt [q.2])) = out ++ [r] := by
  unfold one
  match hb : bs r with
  | [] => exact absurd (by rw [← bs_length, hb]; rfl) hr
  | c :: l =>
    simp only [onesFrom, List.map_cons]
    show joins (join out _) _ = _
    have hj : join out (r.1, txt [c]) = out ++ [(r.1, txt [c])] := by
      rcases snoc_cases out with rfl | ⟨m, s, rfl⟩
      · rfl
      · rw [lastEnd_append] at hl
        have hl' : rend s < r.1 := hl
        rw [join_snoc, if_neg (by simp only; omega)]
    rw [hj]
    have := joins_from l out r.1 [c]
    simp only [List.length_singleton] at this
    rw [show r.1 + ((1 : Nat) : Int) = r.1 + 1 from rfl] at this
    rw [this, List.singleton_append, ← hb]
    unfold bs
    rw [txt_bs]
theorem joins_ones : ∀ (l out : List R) (a : Int), right a (out ++ l) → joins out ((ones l).map fun q => (q.1, txt [q.2])) = out ++ l
  | [], out, a, _ => by simp [ones, joins]
  | r :: l, out, a, h => by
    have h' := (right_append _ _ _).1 h
    rw [ones_cons, List.map_append, joins_append, joins_one h'.1 h'.2.1.1 h'.2.1.2.1, joins_ones l (out ++ [r]) a (by simpa using h)]
    simp
theorem made_ones {l : List R} (h : right (-1) l) : made (ones l) = l := by
  have := joins_ones l [] (-1) (by simpa using h)
  simpa [made] using this
theorem eq_of_ones {l m : List R} (hl : right (-1) l) (hm : right (-1) m) (h : ones l = ones m) : l = m := by
  rw [← made_ones hl, ← made_ones hm, h]
theorem right_filter {l : List R} (h : right (-1) l) : ∀ q ∈ ones l, 0 ≤ q.1 ∧ q.1 < MAX := by
  intro q hq
  obtain ⟨r, hr, hq⟩ := List.mem_flatMap.1 hq
  have h1 := right_mem h r hr
  have h2 := one_mem r q hq
  omega
/-- The byte at a place. -/
def look (c : UInt8) (p : Int) (l : List (Int × UInt8)) : UInt8 := l.foldl (fun c q => if q.1 = p then q.2 else c) c
theorem look_append (c : UInt8) (p : Int) (l m : List (Int × UInt8)) : look c p (l ++ m) = look (look c p l) p m := by simp [look]
theorem look_filter (f : Int × UInt8 → Bool) (p : Int) (l : List (Int × UInt8)) : ∀ c, (∀ q ∈ l, q.1 = p → f q = true) → look c p (l.filter f) = look c p l := by
  induction l with
  | nil => intro c _; rfl
  | cons q l ih =>
    intro c h
    have h' : ∀ q ∈ l, q.1 = p → f q = true := fun q hq => h q (List.mem_cons_of_mem _ hq)
    by_cases hf : f q = true
    · rw [List.filter_cons_of_pos hf]
      exact ih _ h'
    · rw [List.filter_cons_of_neg hf, ih _ h']
      have : ¬ q.1 = p := fun e => hf (h q (List.mem_cons_self ..) e)
      show _ = look (if q.1 = p then q.2 else c) p l
      rw [if_neg this]
theorem look_none (c : UInt8) (p : Int) (l : List (Int × UInt8)) (h : ∀ q ∈ l, q.1 ≠ p) : look c p l = c := by
  induction l with
  | nil => rfl
  | cons q l ih =>
    show look (if q.1 = p then q.2 else c) p l = c
    rw [if_neg (h q (List.mem_cons_self ..)), ih (fun q hq => h q (List.mem_cons_of_mem _ hq))]
theorem look_from (l : List UInt8) : ∀ (c : UInt8) (p s : Int), s ≤ p → p < s + l.length → look c p (onesFrom s l) = l.getD (p - s).toNat 0 := by
  induction l with
  | nil => intro c p s h1 h2; simp at h2; omega
  | cons b l ih =>
    intro c p s h1 h2
    simp only [onesFrom]
    show look (if s = p then b else c) p (onesFrom (s + 1) l) = _
    simp only [List.length_cons] at h2
    by_cases e : s = p
    · subst e
      rw [if_pos rfl, look_none _ _ _ (fun q hq => by have := onesFrom_mem _ _ q hq; omega)]
      simp
    · rw [if_neg e, ih _ _ _ (by omega) (by omega), show (p - s).toNat = (p - (s + 1)).toNat + 1 from by omega]
      simp
theorem look_one (c : UInt8) (p : Int) (r : R) : look c p (one r) = if r.1 ≤ p ∧ p < rend r then (bs r).getD (p - r.1).toNat 0 else c := by
  split
  · rename_i h
    exact look_from _ _ _ _ h.1 (by rw [bs_length]; exact h.2)
  · rename_i h
    exact look_none _ _ _ (fun q hq e => h (by have := one_mem r q hq; omega))
end Bl
end Go.Proofs.Ytkkaendfcfkbbaa
